/- A single value of an argument. -/
import Derived.Test.YtpjbobbmldplbaaGreatDoorK14
namespace Go.Proofs.YtpjbobbmldplbaaGreatDoor
open Go.RowKit Ieee Go.Shelf
attribute [local go_sem] run_store_float

def errV : Vv := ⟨4, 0, ⟨#[]⟩, false, 3⟩
def sglF (ms : Bool) (r c : Int) (P : List Pl) : Vv := if argF ckV ms r c P = 0 ∧ r = 1 ∧ c = 1 then toldF P 0 0 else errV
set_option maxRecDepth 100000 in
theorem onePlace_any (rf ms : Bool) (r c : Int) (ao : Option Addr) (cap : Nat) (P : List Pl) (w : World) : Calls Tryz.prog 31 #[.agg #[.bool rf, .bool ms, .int .i64 r, .int .i64 c, .slice ao P.length cap]] w fun e w' => e = .returned (.bool (decide (r = 1 ∧ c = 1))) ∧ Fr noB w w' := by
  have hF0 : Fr noB w (w.alloc (.cells #[.bool rf, .bool ms, .int .i64 r, .int .i64 c, .slice ao P.length cap] 24 (0, 0))) := (Fr.refl noB w).alloc _
  by_cases h1 : r = 1
  · by_cases h2 : c = 1
    · subst h1 h2
      go_enter Tryz.func31, Tryz.ntmps31
      go_wp2_with fail
      go_ret
      exact ⟨rfl, hF0⟩
    · have q2 : (c == 1) = false := by simpa using h2
      have hd : decide (r = 1 ∧ c = 1) = false := by simp [h2]
      subst h1
      rw [hd]
      go_enter Tryz.func31, Tryz.ntmps31
      go_wp2_with fail
      go_ret
      exact ⟨rfl, hF0⟩
  · have q1 : (r == 1) = false := by simpa using h1
    have hd : decide (r = 1 ∧ c = 1) = false := by simp [h1]
    rw [hd]
    go_enter Tryz.func31, Tryz.ntmps31
    go_wp2_with fail
    go_ret
    exact ⟨rfl, hF0⟩
theorem arg_ok {ms : Bool} {r c : Int} {P : List Pl} (h : argF ckV ms r c P = 0) : 1 ≤ r ∧ r ≤ 1048576 ∧ 1 ≤ c ∧ c ≤ 1024 := by
  unfold argF at h
  split at h
  · omega
  · omega
theorem one_mul {r c : Int} (h1 : 1 ≤ r) (h2 : r ≤ 1048576) (h3 : 1 ≤ c) (h4 : c ≤ 1024) : (r * c = 1 ↔ r = 1 ∧ c = 1) ∧ 1 ≤ r * c ∧ r * c ≤ 1073741824 := by
  have k1 := Int.mul_le_mul_of_nonneg_right h1 (show 0 ≤ c by omega)
  have k2 := Int.mul_le_mul_of_nonneg_right h2 (show 0 ≤ c by omega)
  have k3 := Int.mul_le_mul_of_nonneg_left h3 (show 0 ≤ r by omega)
  refine ⟨⟨fun h => ⟨by omega, by omega⟩, fun ⟨a, b⟩ => by subst a b; rfl⟩, by omega, by omega⟩
set_option maxRecDepth 100000 in
set_option maxHeartbeats 4000000 in
theorem psingle_any (rf ms : Bool) (r c : Int) (ao : Option Addr) (cap : Nat) (P : List Pl) (w : World) (hA : PsAt w ao P) (hl : P.length ≤ 140737488355328) (hV : ∀ p ∈ P, Vok p.v) (hU : U8 w) :
    Calls Tryz.prog 13 #[.agg #[.bool rf, .bool ms, .int .i64 r, .int .i64 c, .slice ao P.length cap]] w fun e w' => e = .returned (.agg #[.int .i64 (sglF ms r c P).k, .float .f64 (sglF ms r c P).n, .string (sglF ms r c P).s, .bool (sglF ms r c P).y, .int .i64 (sglF ms r c P).e]) ∧ Fr noB w w' := by
  have hF0 : Fr noB w ((w.alloc (.cells #[.bool rf, .bool ms, .int .i64 r, .int .i64 c, .slice ao P.length cap] 24 (0, 0))).alloc (.cells #[.int .i64 0, .float .f64 0, .string ⟨#[]⟩, .bool false, .int .i64 0] 37 (0, 0))) := ((Fr.refl noB w).alloc _).alloc _
  have hG : GAt ((w.alloc (.cells #[.bool rf, .bool ms, .int .i64 r, .int .i64 c, .slice ao P.length cap] 24 (0, 0))).alloc (.cells #[.int .i64 0, .float .f64 0, .string ⟨#[]⟩, .bool false, .int .i64 0] 37 (0, 0))) w.heap.size rf ms r c ao P.length cap := ⟨old1 (new1 _ _ _ rfl)⟩
  have hO : VAt ((w.alloc (.cells #[.bool rf, .bool ms, .int .i64 r, .int .i64 c, .slice ao P.length cap] 24 (0, 0))).alloc (.cells #[.int .i64 0, .float .f64 0, .string ⟨#[]⟩, .bool false, .int .i64 0] 37 (0, 0))) (w.heap.size + 1) 0 0 ⟨#[]⟩ false 0 := ⟨new1 _ _ _ (by simp)⟩
  have HB : Hid (∀ W, Fr noB ((w.alloc (.cells #[.bool rf, .bool ms, .int .i64 r, .int .i64 c, .slice ao P.length cap] 24 (0, 0))).alloc (.cells #[.int .i64 0, .float .f64 0, .string ⟨#[]⟩, .bool false, .int .i64 0] 37 (0, 0))) W → GAt W w.heap.size rf ms r c ao P.length cap ∧ VAt W (w.heap.size + 1) 0 0 ⟨#[]⟩ false 0) := fun W h => ⟨hG.fr h id, hO.fr h id⟩
  have HF0 : Hid (Fr noB w ((w.alloc (.cells #[.bool rf, .bool ms, .int .i64 r, .int .i64 c, .slice ao P.length cap] 24 (0, 0))).alloc (.cells #[.int .i64 0, .float .f64 0, .string ⟨#[]⟩, .bool false, .int .i64 0] 37 (0, 0)))) := hF0
  have HC := parg_any rf ms r c ao cap P ((w.alloc (.cells #[.bool rf, .bool ms, .int .i64 r, .int .i64 c, .slice ao P.length cap] 24 (0, 0))).alloc (.cells #[.int .i64 0, .float .f64 0, .string ⟨#[]⟩, .bool false, .int .i64 0] 37 (0, 0))) (hA.keep hF0) hl hV (hU.fr hF0)
  have HE : ∀ W, _ := perr_any 3
  obtain ⟨⟨vk, vn, vs, vy, ve⟩, hT0⟩ : ∃ v, toldF P 0 0 = v := ⟨_, rfl⟩
  have HT : Hid (∀ W, Fr noB w W → Calls Tryz.prog 33 #[.agg #[.bool rf, .bool ms, .int .i64 r, .int .i64 c, .slice ao P.length cap], .int .i64 0, .int .i64 0] W fun e w' => e = .returned (.agg #[.int .i64 vk, .float .f64 vn, .string vs, .bool vy, .int .i64 ve]) ∧ Fr noB W w') := fun W h => by
    have hh := told_any rf ms r c ao cap P 0 0 W (hA.keep h) hl hV
    rw [hT0] at hh
    exact hh
  have HO : ∀ W, _ := onePlace_any rf ms r c ao cap P
  by_cases hq : argF ckV ms r c P = 0
  · obtain ⟨b1, b2, b3, b4⟩ := arg_ok hq
    obtain ⟨e1, e2, e3⟩ := one_mul b1 b2 b3 b4
    rw [hq] at HC
    by_cases ho : r = 1 ∧ c = 1
    · have hs : sglF ms r c P = toldF P 0 0 := by unfold sglF; rw [if_pos ⟨hq, ho.1, ho.2⟩]
      rw [decide_eq_true ho] at HO
      rw [hs, hT0]
      clear hT0
      clear e1 e2 e3 b1 b2 b3 b4
      clear hA hV hU hG hO hF0 hs hq ho
      go_enter Tryz.func13, Tryz.ntmps13
      go_wp2_with (first
        | (go_at_call 19; refine HC.mono ?_; rintro e w1 ⟨rfl, hF1⟩; have g0 := (HB.out _ hF1).1.c0; have g1 := (HB.out _ hF1).1.c1; have g2 := (HB.out _ hF1).1.c2; have g3 := (HB.out _ hF1).1.c3; have g4 := (HB.out _ hF1).1.c4)
        | (go_at_call 31; refine (HO _).mono ?_; rintro e w2 ⟨rfl, hF2⟩; have k0 := (HB.out _ (hF1.trans hF2)).1.c0; have k1 := (HB.out _ (hF1.trans hF2)).1.c1; have k2 := (HB.out _ (hF1.trans hF2)).1.c2; have k3 := (HB.out _ (hF1.trans hF2)).1.c3; have k4 := (HB.out _ (hF1.trans hF2)).1.c4)
        | (go_at_call 33; refine (HT.out _ (HF0.out.trans (hF1.trans hF2))).mono ?_; rintro e w3 ⟨rfl, hF3⟩; have hO3 := (HB.out _ ((hF1.trans hF2).trans hF3)).2)
        | (refine wpList_store_val rfl (.tmp 2) (.tmp 13) rfl (w.heap.size + 1) vk vn vs vy ve rfl rfl hO3 ?_; intro W hW hFW))
      exact bodyPost_ret (vret Tryz.results13 _ _ _ rfl hW) rfl ⟨rfl, (HF0.out.trans ((hF1.trans hF2).trans hF3)).new hFW (by omega)⟩
    · have hs : sglF ms r c P = errV := by unfold sglF; rw [if_neg (fun h => ho ⟨h.2.1, h.2.2⟩)]
      rw [decide_eq_false ho] at HO
      rw [hs]
      obtain ⟨m, hm⟩ : ∃ m, r * c = m := ⟨_, rfl⟩
      rw [hm] at e1 e2 e3
      have hm1 : ¬ m = 1 := fun h => ho (e1.1 h)
      have hm2 : (m != 1) = true := by simpa using hm1
      clear hA hV hU hG hO hF0 hs hq ho e1 hm1 hm hm2 e2 e3
      go_enter Tryz.func13, Tryz.ntmps13
      go_wp2_with (first
        | (go_at_call 19; refine HC.mono ?_; rintro e w1 ⟨rfl, hF1⟩; have g0 := (HB.out _ hF1).1.c0; have g1 := (HB.out _ hF1).1.c1; have g2 := (HB.out _ hF1).1.c2; have g3 := (HB.out _ hF1).1.c3; have g4 := (HB.out _ hF1).1.c4)
        | (go_at_call 31; refine (HO _).mono ?_; rintro e w2 ⟨rfl, hF2⟩)
        | (go_at_call 32; refine (HE _).mono ?_; rintro e w3 ⟨rfl, hF3⟩; have hO3 := (HB.out _ ((hF1.trans hF2).trans hF3)).2)
        | (refine wpList_store_val rfl (.tmp 2) (.tmp 11) rfl (w.heap.size + 1) 4 0 ⟨#[]⟩ false 3 rfl rfl hO3 ?_; intro W hW hFW))
      exact bodyPost_ret (vret Tryz.results13 _ _ _ rfl hW) rfl ⟨rfl, (HF0.out.trans ((hF1.trans hF2).trans hF3)).new hFW (by omega)⟩
  · have hs : sglF ms r c P = errV := by unfold sglF; rw [if_neg (fun h => hq h.1)]
    rw [hs]
    have q2 : (argF ckV ms r c P != 0) = true := by simpa using hq
    generalize argF ckV ms r c P = Q at *
    clear hA hV hU hG hO hF0 hs hq
    go_enter Tryz.func13, Tryz.ntmps13
    go_wp2_with (first
      | (go_at_call 19; refine HC.mono ?_; rintro e w1 ⟨rfl, hF1⟩)
      | (go_at_call 32; refine (HE _).mono ?_; rintro e w3 ⟨rfl, hF3⟩; have hO3 := (HB.out _ (hF1.trans hF3)).2)
      | (refine wpList_store_val rfl (.tmp 2) (.tmp 11) rfl (w.heap.size + 1) 4 0 ⟨#[]⟩ false 3 rfl rfl hO3 ?_; intro W hW hFW))
    exact bodyPost_ret (vret Tryz.results13 _ _ _ rfl hW) rfl ⟨rfl, (HF0.out.trans (hF1.trans hF3)).new hFW (by omega)⟩
set_option maxRecDepth 100000 in
set_option maxHeartbeats 4000000 in
theorem rsingle_any (rf ms : Bool) (r c : Int) (ao : Option Addr) (cap : Nat) (P : List Pl) (w : World) (hA : PsAt w ao P) (hl : P.length ≤ 140737488355328) (hV : ∀ p ∈ P, Vok p.v) (hU : U8 w) :
    Calls Tryz.prog 14 #[.agg #[.bool rf, .bool ms, .int .i64 r, .int .i64 c, .slice ao P.length cap]] w fun e w' => e = .returned (.agg #[.int .i64 (sglF ms r c P).k, .float .f64 (sglF ms r c P).n, .string (sglF ms r c P).s, .bool (sglF ms r c P).y, .int .i64 (sglF ms r c P).e]) ∧ Fr noB w w' := by
  have hF0 : Fr noB w ((w.alloc (.cells #[.bool rf, .bool ms, .int .i64 r, .int .i64 c, .slice ao P.length cap] 24 (0, 0))).alloc (.cells #[.int .i64 0, .float .f64 0, .string ⟨#[]⟩, .bool false, .int .i64 0] 37 (0, 0))) := ((Fr.refl noB w).alloc _).alloc _
  have hG : GAt ((w.alloc (.cells #[.bool rf, .bool ms, .int .i64 r, .int .i64 c, .slice ao P.length cap] 24 (0, 0))).alloc (.cells #[.int .i64 0, .float .f64 0, .string ⟨#[]⟩, .bool false, .int .i64 0] 37 (0, 0))) w.heap.size rf ms r c ao P.length cap := ⟨old1 (new1 _ _ _ rfl)⟩
  have hO : VAt ((w.alloc (.cells #[.bool rf, .bool ms, .int .i64 r, .int .i64 c, .slice ao P.length cap] 24 (0, 0))).alloc (.cells #[.int .i64 0, .float .f64 0, .string ⟨#[]⟩, .bool false, .int .i64 0] 37 (0, 0))) (w.heap.size + 1) 0 0 ⟨#[]⟩ false 0 := ⟨new1 _ _ _ (by simp)⟩
  have HB : Hid (∀ W, Fr noB ((w.alloc (.cells #[.bool rf, .bool ms, .int .i64 r, .int .i64 c, .slice ao P.length cap] 24 (0, 0))).alloc (.cells #[.int .i64 0, .float .f64 0, .string ⟨#[]⟩, .bool false, .int .i64 0] 37 (0, 0))) W → GAt W w.heap.size rf ms r c ao P.length cap ∧ VAt W (w.heap.size + 1) 0 0 ⟨#[]⟩ false 0) := fun W h => ⟨hG.fr h id, hO.fr h id⟩
  have HF0 : Hid (Fr noB w ((w.alloc (.cells #[.bool rf, .bool ms, .int .i64 r, .int .i64 c, .slice ao P.length cap] 24 (0, 0))).alloc (.cells #[.int .i64 0, .float .f64 0, .string ⟨#[]⟩, .bool false, .int .i64 0] 37 (0, 0)))) := hF0
  have HC := rarg_any rf ms r c ao cap P ((w.alloc (.cells #[.bool rf, .bool ms, .int .i64 r, .int .i64 c, .slice ao P.length cap] 24 (0, 0))).alloc (.cells #[.int .i64 0, .float .f64 0, .string ⟨#[]⟩, .bool false, .int .i64 0] 37 (0, 0))) (hA.keep hF0) hl hV (hU.fr hF0)
  have HE : ∀ W, _ := rerr_any 3
  obtain ⟨⟨vk, vn, vs, vy, ve⟩, hT0⟩ : ∃ v, toldF P 0 0 = v := ⟨_, rfl⟩
  have HT : Hid (∀ W, Fr noB w W → Calls Tryz.prog 35 #[.agg #[.bool rf, .bool ms, .int .i64 r, .int .i64 c, .slice ao P.length cap], .int .i64 0, .int .i64 0] W fun e w' => e = .returned (.agg #[.int .i64 vk, .float .f64 vn, .string vs, .bool vy, .int .i64 ve]) ∧ Fr noB W w') := fun W h => by
    have hh := place_any rf ms r c ao cap P 0 0 W (hA.keep h) hl hV
    rw [hT0] at hh
    exact hh
  by_cases hq : argF ckV ms r c P = 0
  · obtain ⟨b1, b2, b3, b4⟩ := arg_ok hq
    obtain ⟨e1, e2, e3⟩ := one_mul b1 b2 b3 b4
    rw [hq] at HC
    by_cases ho : r = 1 ∧ c = 1
    · have hs : sglF ms r c P = toldF P 0 0 := by unfold sglF; rw [if_pos ⟨hq, ho.1, ho.2⟩]
      skip
      rw [hs, hT0]
      clear hT0
      obtain ⟨rfl, rfl⟩ := ho
      clear hA hV hU hG hO hF0 hs hq e1 e2 e3 b1 b2 b3 b4
      go_enter Tryz.func14, Tryz.ntmps14
      go_wp2_with (first
        | (go_at_call 21; refine HC.mono ?_; rintro e w1 ⟨rfl, hF1⟩; have g0 := (HB.out _ hF1).1.c0; have g1 := (HB.out _ hF1).1.c1; have g2 := (HB.out _ hF1).1.c2; have g3 := (HB.out _ hF1).1.c3; have g4 := (HB.out _ hF1).1.c4)
        
        | (go_at_call 35; refine (HT.out _ (HF0.out.trans (hF1))).mono ?_; rintro e w3 ⟨rfl, hF3⟩; have hO3 := (HB.out _ (hF1.trans hF3)).2)
        | (refine wpList_store_val rfl (.tmp 2) (.tmp 16) rfl (w.heap.size + 1) vk vn vs vy ve rfl rfl hO3 ?_; intro W hW hFW))
      exact bodyPost_ret (vret Tryz.results14 _ _ _ rfl hW) rfl ⟨rfl, (HF0.out.trans (hF1.trans hF3)).new hFW (by omega)⟩
    · have hs : sglF ms r c P = errV := by unfold sglF; rw [if_neg (fun h => ho ⟨h.2.1, h.2.2⟩)]
      skip
      rw [hs]
      obtain ⟨m, hm⟩ : ∃ m, r * c = m := ⟨_, rfl⟩
      rw [hm] at e1 e2 e3
      have hm1 : ¬ m = 1 := fun h => ho (e1.1 h)
      have hm2 : (m != 1) = true := by simpa using hm1
      clear hA hV hU hG hO hF0 hs hq ho e1 hm1 
      go_enter Tryz.func14, Tryz.ntmps14
      go_wp2_with (first
        | (go_at_call 21; refine HC.mono ?_; rintro e w1 ⟨rfl, hF1⟩; have g0 := (HB.out _ hF1).1.c0; have g1 := (HB.out _ hF1).1.c1; have g2 := (HB.out _ hF1).1.c2; have g3 := (HB.out _ hF1).1.c3; have g4 := (HB.out _ hF1).1.c4)
        
        | (go_at_call 34; refine (HE _).mono ?_; rintro e w3 ⟨rfl, hF3⟩; have hO3 := (HB.out _ (hF1.trans hF3)).2)
        | (refine wpList_store_val rfl (.tmp 2) (.tmp 14) rfl (w.heap.size + 1) 4 0 ⟨#[]⟩ false 3 rfl rfl hO3 ?_; intro W hW hFW))
      exact bodyPost_ret (vret Tryz.results14 _ _ _ rfl hW) rfl ⟨rfl, (HF0.out.trans (hF1.trans hF3)).new hFW (by omega)⟩
  · have hs : sglF ms r c P = errV := by unfold sglF; rw [if_neg (fun h => hq h.1)]
    rw [hs]
    have q2 : (argF ckV ms r c P != 0) = true := by simpa using hq
    generalize argF ckV ms r c P = Q at *
    clear hA hV hU hG hO hF0 hs hq
    go_enter Tryz.func14, Tryz.ntmps14
    go_wp2_with (first
      | (go_at_call 21; refine HC.mono ?_; rintro e w1 ⟨rfl, hF1⟩)
      | (go_at_call 34; refine (HE _).mono ?_; rintro e w3 ⟨rfl, hF3⟩; have hO3 := (HB.out _ (hF1.trans hF3)).2)
      | (refine wpList_store_val rfl (.tmp 2) (.tmp 14) rfl (w.heap.size + 1) 4 0 ⟨#[]⟩ false 3 rfl rfl hO3 ?_; intro W hW hFW))
    exact bodyPost_ret (vret Tryz.results14 _ _ _ rfl hW) rfl ⟨rfl, (HF0.out.trans (hF1.trans hF3)).new hFW (by omega)⟩
#print axioms psingle_any
#print axioms rsingle_any
end Go.Proofs.YtpjbobbmldplbaaGreatDoor
/- The one value that an area has for a cell: Cut of both. -/
namespace Go.Proofs.YtpjbobbmldplbaaGreatDoor
open Go.RowKit Ieee Go.Shelf
attribute [local go_sem] run_store_float

def cutF (ms : Bool) (r c : Int) (P : List Pl) (top left row col : Int) : Vv :=
  if argF ckV ms r c P = 0 ∧ ¬ (r = 1 ∧ c = 1) then
    if c = 1 ∧ top + (r - 1) ≤ 9223372036854775807 ∧ top ≤ row ∧ row ≤ top + (r - 1) then toldF P (row - top) 0
    else if r = 1 ∧ left + (c - 1) ≤ 9223372036854775807 ∧ left ≤ col ∧ col ≤ left + (c - 1) then toldF P 0 (col - left)
    else errV
  else sglF ms r c P
theorem wrap_two {t r : Int} (h1 : -9223372036854775808 ≤ t) (h2 : t ≤ 9223372036854775807) (h3 : 1 ≤ r) (h4 : r ≤ 1048576) : ∃ T1 T2, IntKind.i64.wrap (t + r) = T1 ∧ IntKind.i64.wrap (T1 - 1) = T2 ∧ -9223372036854775808 ≤ T2 ∧ T2 ≤ 9223372036854775807 ∧ ((t + (r - 1) ≤ 9223372036854775807 ∧ T2 = t + (r - 1)) ∨ (9223372036854775807 < t + (r - 1) ∧ T2 < t)) := by
  refine ⟨_, _, rfl, rfl, ?_⟩
  rw [IntKind.wrap_i64, IntKind.wrap_i64]
  omega
set_option maxRecDepth 100000 in
theorem among_any (line first n : Int) (h1 : -9223372036854775808 ≤ line) (h2 : line ≤ 9223372036854775807) (h3 : -9223372036854775808 ≤ first) (h4 : first ≤ 9223372036854775807) (h5 : 1 ≤ n) (h6 : n ≤ 1048576) (w : World) :
    Calls Tryz.prog 36 #[.int .i64 line, .int .i64 first, .int .i64 n] w fun e w' => e = .returned (.bool (decide (first + (n - 1) ≤ 9223372036854775807 ∧ first ≤ line ∧ line ≤ first + (n - 1)))) ∧ w' = w := by
  by_cases q1 : first ≤ 9223372036854775807 - (n - 1)
  · by_cases q2 : first ≤ line
    · by_cases q3 : line ≤ first + (n - 1)
      · have hd : decide (first + (n - 1) ≤ 9223372036854775807 ∧ first ≤ line ∧ line ≤ first + (n - 1)) = true := by simp; omega
        rw [hd]
        go_enter Tryz.func36, Tryz.ntmps36
        go_wp2_with fail
        go_ret
        exact ⟨rfl, rfl⟩
      · have hd : decide (first + (n - 1) ≤ 9223372036854775807 ∧ first ≤ line ∧ line ≤ first + (n - 1)) = false := by simp; omega
        rw [hd]
        go_enter Tryz.func36, Tryz.ntmps36
        go_wp2_with fail
        go_ret
        exact ⟨rfl, rfl⟩
    · have hd : decide (first + (n - 1) ≤ 9223372036854775807 ∧ first ≤ line ∧ line ≤ first + (n - 1)) = false := by simp; omega
      rw [hd]
      go_enter Tryz.func36, Tryz.ntmps36
      go_wp2_with fail
      go_ret
      exact ⟨rfl, rfl⟩
  · have hd : decide (first + (n - 1) ≤ 9223372036854775807 ∧ first ≤ line ∧ line ≤ first + (n - 1)) = false := by simp; omega
    rw [hd]
    go_enter Tryz.func36, Tryz.ntmps36
    go_wp2_with fail
    go_ret
    exact ⟨rfl, rfl⟩
set_option maxRecDepth 100000 in
set_option maxHeartbeats 8000000 in
theorem pcut_any (rf ms : Bool) (r c : Int) (ao : Option Addr) (cap : Nat) (P : List Pl) (top left row col : Int) (t1 : -9223372036854775808 ≤ top) (t2 : top ≤ 9223372036854775807) (l1 : -9223372036854775808 ≤ left) (l2 : left ≤ 9223372036854775807) (r1 : -9223372036854775808 ≤ row) (r2 : row ≤ 9223372036854775807) (c1 : -9223372036854775808 ≤ col) (c2 : col ≤ 9223372036854775807) (w : World) (hA : PsAt w ao P) (hl : P.length ≤ 140737488355328) (hV : ∀ p ∈ P, Vok p.v) (hU : U8 w) :
    Calls Tryz.prog 15 #[.agg #[.bool rf, .bool ms, .int .i64 r, .int .i64 c, .slice ao P.length cap], .int .i64 top, .int .i64 left, .int .i64 row, .int .i64 col] w fun e w' => e = .returned (.agg #[.int .i64 (cutF ms r c P top left row col).k, .float .f64 (cutF ms r c P top left row col).n, .string (cutF ms r c P top left row col).s, .bool (cutF ms r c P top left row col).y, .int .i64 (cutF ms r c P top left row col).e]) ∧ Fr noB w w' := by
  have hF0 : Fr noB w ((w.alloc (.cells #[.bool rf, .bool ms, .int .i64 r, .int .i64 c, .slice ao P.length cap] 24 (0, 0))).alloc (.cells #[.int .i64 0, .float .f64 0, .string ⟨#[]⟩, .bool false, .int .i64 0] 37 (0, 0))) := ((Fr.refl noB w).alloc _).alloc _
  have hG : GAt ((w.alloc (.cells #[.bool rf, .bool ms, .int .i64 r, .int .i64 c, .slice ao P.length cap] 24 (0, 0))).alloc (.cells #[.int .i64 0, .float .f64 0, .string ⟨#[]⟩, .bool false, .int .i64 0] 37 (0, 0))) w.heap.size rf ms r c ao P.length cap := ⟨old1 (new1 _ _ _ rfl)⟩
  have hO : VAt ((w.alloc (.cells #[.bool rf, .bool ms, .int .i64 r, .int .i64 c, .slice ao P.length cap] 24 (0, 0))).alloc (.cells #[.int .i64 0, .float .f64 0, .string ⟨#[]⟩, .bool false, .int .i64 0] 37 (0, 0))) (w.heap.size + 1) 0 0 ⟨#[]⟩ false 0 := ⟨new1 _ _ _ (by simp)⟩
  have HB : Hid (∀ W, Fr noB ((w.alloc (.cells #[.bool rf, .bool ms, .int .i64 r, .int .i64 c, .slice ao P.length cap] 24 (0, 0))).alloc (.cells #[.int .i64 0, .float .f64 0, .string ⟨#[]⟩, .bool false, .int .i64 0] 37 (0, 0))) W → GAt W w.heap.size rf ms r c ao P.length cap ∧ VAt W (w.heap.size + 1) 0 0 ⟨#[]⟩ false 0) := fun W h => ⟨hG.fr h id, hO.fr h id⟩
  have HF0 : Hid (Fr noB w ((w.alloc (.cells #[.bool rf, .bool ms, .int .i64 r, .int .i64 c, .slice ao P.length cap] 24 (0, 0))).alloc (.cells #[.int .i64 0, .float .f64 0, .string ⟨#[]⟩, .bool false, .int .i64 0] 37 (0, 0)))) := hF0
  have HC := parg_any rf ms r c ao cap P ((w.alloc (.cells #[.bool rf, .bool ms, .int .i64 r, .int .i64 c, .slice ao P.length cap] 24 (0, 0))).alloc (.cells #[.int .i64 0, .float .f64 0, .string ⟨#[]⟩, .bool false, .int .i64 0] 37 (0, 0))) (hA.keep hF0) hl hV (hU.fr hF0)
  have HE : ∀ W, _ := perr_any 3
  have HS : Hid (∀ W, Fr noB w W → Calls Tryz.prog 13 #[.agg #[.bool rf, .bool ms, .int .i64 r, .int .i64 c, .slice ao P.length cap]] W fun e w' => e = .returned (.agg #[.int .i64 (sglF ms r c P).k, .float .f64 (sglF ms r c P).n, .string (sglF ms r c P).s, .bool (sglF ms r c P).y, .int .i64 (sglF ms r c P).e]) ∧ Fr noB W w') := fun W h => psingle_any rf ms r c ao cap P W (hA.keep h) hl hV (hU.fr h)
  obtain ⟨Rv, hR0⟩ : ∃ v, toldF P (row - top) (0) = v := ⟨_, rfl⟩
  have HR : Hid (∀ W, Fr noB w W → Calls Tryz.prog 33 #[.agg #[.bool rf, .bool ms, .int .i64 r, .int .i64 c, .slice ao P.length cap], .int .i64 (row - top), .int .i64 (0)] W fun e w' => e = .returned (.agg #[.int .i64 (Rv).k, .float .f64 (Rv).n, .string (Rv).s, .bool (Rv).y, .int .i64 (Rv).e]) ∧ Fr noB W w') := fun W h => by
    have hh := told_any rf ms r c ao cap P (row - top) (0) W (hA.keep h) hl hV
    rw [hR0] at hh
    exact hh
  obtain ⟨Kv, hK0⟩ : ∃ v, toldF P (0) (col - left) = v := ⟨_, rfl⟩
  have HK : Hid (∀ W, Fr noB w W → Calls Tryz.prog 33 #[.agg #[.bool rf, .bool ms, .int .i64 r, .int .i64 c, .slice ao P.length cap], .int .i64 (0), .int .i64 (col - left)] W fun e w' => e = .returned (.agg #[.int .i64 (Kv).k, .float .f64 (Kv).n, .string (Kv).s, .bool (Kv).y, .int .i64 (Kv).e]) ∧ Fr noB W w') := fun W h => by
    have hh := told_any rf ms r c ao cap P (0) (col - left) W (hA.keep h) hl hV
    rw [hK0] at hh
    exact hh
  have HO : ∀ W, _ := onePlace_any rf ms r c ao cap P
  by_cases hq : argF ckV ms r c P = 0
  case neg =>
      have hs : cutF ms r c P top left row col = sglF ms r c P := by unfold cutF; rw [if_neg (fun h => hq h.1)]
      rw [hs]
      have q2 : (argF ckV ms r c P != 0) = true := by simpa using hq
      generalize argF ckV ms r c P = Q at *
      generalize sglF ms r c P = X at *
      clear hA hV hU hG hO hF0 hs hR0 hK0
      try clear ho
      try clear m1
      try clear m2
      go_enter Tryz.func15, Tryz.ntmps15
      go_wp2_with (first
        | (go_at_call 19; refine HC.mono ?_; rintro e w1 ⟨rfl, hF1⟩; have g0 := (HB.out _ (hF1)).1.c0; have g1 := (HB.out _ (hF1)).1.c1; have g2 := (HB.out _ (hF1)).1.c2; have g3 := (HB.out _ (hF1)).1.c3; have g4 := (HB.out _ (hF1)).1.c4; skip)
        | (go_at_call 31; refine (HO _).mono ?_; rintro e w2 ⟨rfl, hF2⟩; have k0 := (HB.out _ hF1).1.c0; have k1 := (HB.out _ hF1).1.c1; have k2 := (HB.out _ hF1).1.c2; have k3 := (HB.out _ hF1).1.c3; have k4 := (HB.out _ hF1).1.c4; skip)
        | (go_at_call 13; with_reducible refine (HS.out _ (HF0.out.trans hF1)).mono ?_; rintro e w3 ⟨rfl, hF3⟩; have hO3 := (HB.out _ (hF1.trans hF3)).2)
        | (refine wpList_store_val rfl (.tmp 10) (.tmp 20) rfl (w.heap.size + 1) (X).k (X).n (X).s (X).y (X).e rfl rfl hO3 ?_; intro W hW hFW))
      exact bodyPost_ret (vret Tryz.results15 _ _ _ rfl hW) rfl ⟨rfl, (HF0.out.trans (hF1.trans hF3)).new hFW (by omega)⟩
  obtain ⟨b1, b2, b3, b4⟩ := arg_ok hq
  obtain ⟨e1, e2, e3⟩ := one_mul b1 b2 b3 b4
  have hCF := hq
  rw [hq] at HC
  by_cases ho : r = 1 ∧ c = 1
  case pos =>
      have hs : cutF ms r c P top left row col = sglF ms r c P := by unfold cutF; rw [if_neg (fun h => h.2 ho)]
      rw [hs]
      generalize sglF ms r c P = X at *
      rw [decide_eq_true ho] at HO
      clear hq hCF e1 e2 e3 ho
      clear hA hV hU hG hO hF0 hs hR0 hK0
      try clear ho
      try clear m1
      try clear m2
      go_enter Tryz.func15, Tryz.ntmps15
      go_wp2_with (first
        | (go_at_call 19; refine HC.mono ?_; rintro e w1 ⟨rfl, hF1⟩; have g0 := (HB.out _ (hF1)).1.c0; have g1 := (HB.out _ (hF1)).1.c1; have g2 := (HB.out _ (hF1)).1.c2; have g3 := (HB.out _ (hF1)).1.c3; have g4 := (HB.out _ (hF1)).1.c4; skip)
        | (go_at_call 31; refine (HO _).mono ?_; rintro e w2 ⟨rfl, hF2⟩; have k0 := (HB.out _ (hF1.trans hF2)).1.c0; have k1 := (HB.out _ (hF1.trans hF2)).1.c1; have k2 := (HB.out _ (hF1.trans hF2)).1.c2; have k3 := (HB.out _ (hF1.trans hF2)).1.c3; have k4 := (HB.out _ (hF1.trans hF2)).1.c4; skip)
        | (go_at_call 36; with_reducible refine (HM1 _).mono ?_; rintro e w8 ⟨rfl, hw⟩; rw [hw]; clear hw) | (go_at_call 36; with_reducible refine (HM2 _).mono ?_; rintro e w8 ⟨rfl, hw⟩; rw [hw]; clear hw)
        | (go_at_call 13; with_reducible refine (HS.out _ (HF0.out.trans (hF1.trans hF2))).mono ?_; rintro e w3 ⟨rfl, hF3⟩; have hO3 := (HB.out _ ((hF1.trans hF2).trans hF3)).2)
        | (refine wpList_store_val rfl (.tmp 10) (.tmp 20) rfl (w.heap.size + 1) (X).k (X).n (X).s (X).y (X).e rfl rfl hO3 ?_; intro W hW hFW))
      exact bodyPost_ret (vret Tryz.results15 _ _ _ rfl hW) rfl ⟨rfl, (HF0.out.trans ((hF1.trans hF2).trans hF3)).new hFW (by omega)⟩
  have hcut : cutF ms r c P top left row col = (if c = 1 ∧ top + (r - 1) ≤ 9223372036854775807 ∧ top ≤ row ∧ row ≤ top + (r - 1) then toldF P (row - top) 0 else if r = 1 ∧ left + (c - 1) ≤ 9223372036854775807 ∧ left ≤ col ∧ col ≤ left + (c - 1) then toldF P 0 (col - left) else errV) := by unfold cutF; rw [if_pos ⟨hq, ho⟩]
  rw [hcut]
  clear hcut hCF HS hq
  rw [decide_eq_false ho] at HO
  clear e1 e2 e3
  have HM1 : ∀ W, _ := among_any row top r r1 r2 t1 t2 b1 b2
  have HM2 : ∀ W, _ := among_any col left c c1 c2 l1 l2 b3 (by omega)
  by_cases m1 : top + (r - 1) ≤ 9223372036854775807 ∧ top ≤ row ∧ row ≤ top + (r - 1)
  · rw [decide_eq_true m1] at HM1
    by_cases h1 : c = 1
    case pos =>
      have hs := True.intro
      rw [if_pos ⟨h1, m1⟩, hR0]
      have y0 : 0 ≤ row - top := by omega
      have y1 : row - top ≤ 1048576 := by omega
      subst h1
      clear HM2
      clear hA hV hU hG hO hF0 hs hR0 hK0
      try clear ho
      try clear m1
      try clear m2
      go_enter Tryz.func15, Tryz.ntmps15
      go_wp2_with (first
        | (go_at_call 19; refine HC.mono ?_; rintro e w1 ⟨rfl, hF1⟩; have g0 := (HB.out _ (hF1)).1.c0; have g1 := (HB.out _ (hF1)).1.c1; have g2 := (HB.out _ (hF1)).1.c2; have g3 := (HB.out _ (hF1)).1.c3; have g4 := (HB.out _ (hF1)).1.c4; skip)
        | (go_at_call 31; refine (HO _).mono ?_; rintro e w2 ⟨rfl, hF2⟩; have k0 := (HB.out _ (hF1.trans hF2)).1.c0; have k1 := (HB.out _ (hF1.trans hF2)).1.c1; have k2 := (HB.out _ (hF1.trans hF2)).1.c2; have k3 := (HB.out _ (hF1.trans hF2)).1.c3; have k4 := (HB.out _ (hF1.trans hF2)).1.c4; skip)
        | (go_at_call 36; with_reducible refine (HM1 _).mono ?_; rintro e w8 ⟨rfl, hw⟩; rw [hw]; clear hw) | (go_at_call 36; with_reducible refine (HM2 _).mono ?_; rintro e w8 ⟨rfl, hw⟩; rw [hw]; clear hw)
        | (go_at_call 33; with_reducible refine (HR.out _ (HF0.out.trans (hF1.trans hF2))).mono ?_; rintro e w3 ⟨rfl, hF3⟩; have hO3 := (HB.out _ ((hF1.trans hF2).trans hF3)).2)
        | (refine wpList_store_val rfl (.tmp 10) (.tmp 36) rfl (w.heap.size + 1) (Rv).k (Rv).n (Rv).s (Rv).y (Rv).e rfl rfl hO3 ?_; intro W hW hFW))
      exact bodyPost_ret (vret Tryz.results15 _ _ _ rfl hW) rfl ⟨rfl, (HF0.out.trans ((hF1.trans hF2).trans hF3)).new hFW (by omega)⟩
    have h1b : (c == 1) = false := by simpa using h1
    rw [if_neg (fun h => h1 h.1)]
    by_cases h2 : r = 1
    case neg =>
      have hs := True.intro
      have h2b : (r == 1) = false := by simpa using h2
      rw [if_neg (fun h => h2 h.1)]
      clear HM1 HM2 m1
      clear hA hV hU hG hO hF0 hs hR0 hK0
      try clear ho
      try clear m1
      try clear m2
      go_enter Tryz.func15, Tryz.ntmps15
      go_wp2_with (first
        | (go_at_call 19; refine HC.mono ?_; rintro e w1 ⟨rfl, hF1⟩; have g0 := (HB.out _ (hF1)).1.c0; have g1 := (HB.out _ (hF1)).1.c1; have g2 := (HB.out _ (hF1)).1.c2; have g3 := (HB.out _ (hF1)).1.c3; have g4 := (HB.out _ (hF1)).1.c4; skip)
        | (go_at_call 31; refine (HO _).mono ?_; rintro e w2 ⟨rfl, hF2⟩; have k0 := (HB.out _ (hF1.trans hF2)).1.c0; have k1 := (HB.out _ (hF1.trans hF2)).1.c1; have k2 := (HB.out _ (hF1.trans hF2)).1.c2; have k3 := (HB.out _ (hF1.trans hF2)).1.c3; have k4 := (HB.out _ (hF1.trans hF2)).1.c4; skip)
        | (go_at_call 36; with_reducible refine (HM1 _).mono ?_; rintro e w8 ⟨rfl, hw⟩; rw [hw]; clear hw) | (go_at_call 36; with_reducible refine (HM2 _).mono ?_; rintro e w8 ⟨rfl, hw⟩; rw [hw]; clear hw)
        | (go_at_call 32; with_reducible refine (HE _).mono ?_; rintro e w3 ⟨rfl, hF3⟩; have hO3 := (HB.out _ ((hF1.trans hF2).trans hF3)).2)
        | (refine wpList_store_val rfl (.tmp 10) (.tmp 53) rfl (w.heap.size + 1) 4 0 ⟨#[]⟩ false 3 rfl rfl hO3 ?_; intro W hW hFW))
      exact bodyPost_ret (vret Tryz.results15 _ _ _ rfl hW) rfl ⟨rfl, (HF0.out.trans ((hF1.trans hF2).trans hF3)).new hFW (by omega)⟩
    by_cases m2 : left + (c - 1) ≤ 9223372036854775807 ∧ left ≤ col ∧ col ≤ left + (c - 1)
    case pos =>
      have hs := True.intro
      rw [decide_eq_true m2] at HM2
      rw [if_pos ⟨h2, m2⟩, hK0]
      have y0 : 0 ≤ col - left := by omega
      have y1 : col - left ≤ 1048576 := by omega
      subst h2
      clear HM1
      clear hA hV hU hG hO hF0 hs hR0 hK0
      try clear ho
      try clear m1
      try clear m2
      go_enter Tryz.func15, Tryz.ntmps15
      go_wp2_with (first
        | (go_at_call 19; refine HC.mono ?_; rintro e w1 ⟨rfl, hF1⟩; have g0 := (HB.out _ (hF1)).1.c0; have g1 := (HB.out _ (hF1)).1.c1; have g2 := (HB.out _ (hF1)).1.c2; have g3 := (HB.out _ (hF1)).1.c3; have g4 := (HB.out _ (hF1)).1.c4; skip)
        | (go_at_call 31; refine (HO _).mono ?_; rintro e w2 ⟨rfl, hF2⟩; have k0 := (HB.out _ (hF1.trans hF2)).1.c0; have k1 := (HB.out _ (hF1.trans hF2)).1.c1; have k2 := (HB.out _ (hF1.trans hF2)).1.c2; have k3 := (HB.out _ (hF1.trans hF2)).1.c3; have k4 := (HB.out _ (hF1.trans hF2)).1.c4; skip)
        | (go_at_call 36; with_reducible refine (HM1 _).mono ?_; rintro e w8 ⟨rfl, hw⟩; rw [hw]; clear hw) | (go_at_call 36; with_reducible refine (HM2 _).mono ?_; rintro e w8 ⟨rfl, hw⟩; rw [hw]; clear hw)
        | (go_at_call 33; with_reducible refine (HK.out _ (HF0.out.trans (hF1.trans hF2))).mono ?_; rintro e w3 ⟨rfl, hF3⟩; have hO3 := (HB.out _ ((hF1.trans hF2).trans hF3)).2)
        | (refine wpList_store_val rfl (.tmp 10) (.tmp 52) rfl (w.heap.size + 1) (Kv).k (Kv).n (Kv).s (Kv).y (Kv).e rfl rfl hO3 ?_; intro W hW hFW))
      exact bodyPost_ret (vret Tryz.results15 _ _ _ rfl hW) rfl ⟨rfl, (HF0.out.trans ((hF1.trans hF2).trans hF3)).new hFW (by omega)⟩
    case neg =>
      have hs := True.intro
      rw [decide_eq_false m2] at HM2
      rw [if_neg (fun h => m2 h.2)]
      subst h2
      clear HM1
      clear hA hV hU hG hO hF0 hs hR0 hK0
      try clear ho
      try clear m1
      try clear m2
      go_enter Tryz.func15, Tryz.ntmps15
      go_wp2_with (first
        | (go_at_call 19; refine HC.mono ?_; rintro e w1 ⟨rfl, hF1⟩; have g0 := (HB.out _ (hF1)).1.c0; have g1 := (HB.out _ (hF1)).1.c1; have g2 := (HB.out _ (hF1)).1.c2; have g3 := (HB.out _ (hF1)).1.c3; have g4 := (HB.out _ (hF1)).1.c4; skip)
        | (go_at_call 31; refine (HO _).mono ?_; rintro e w2 ⟨rfl, hF2⟩; have k0 := (HB.out _ (hF1.trans hF2)).1.c0; have k1 := (HB.out _ (hF1.trans hF2)).1.c1; have k2 := (HB.out _ (hF1.trans hF2)).1.c2; have k3 := (HB.out _ (hF1.trans hF2)).1.c3; have k4 := (HB.out _ (hF1.trans hF2)).1.c4; skip)
        | (go_at_call 36; with_reducible refine (HM1 _).mono ?_; rintro e w8 ⟨rfl, hw⟩; rw [hw]; clear hw) | (go_at_call 36; with_reducible refine (HM2 _).mono ?_; rintro e w8 ⟨rfl, hw⟩; rw [hw]; clear hw)
        | (go_at_call 32; with_reducible refine (HE _).mono ?_; rintro e w3 ⟨rfl, hF3⟩; have hO3 := (HB.out _ ((hF1.trans hF2).trans hF3)).2)
        | (refine wpList_store_val rfl (.tmp 10) (.tmp 53) rfl (w.heap.size + 1) 4 0 ⟨#[]⟩ false 3 rfl rfl hO3 ?_; intro W hW hFW))
      exact bodyPost_ret (vret Tryz.results15 _ _ _ rfl hW) rfl ⟨rfl, (HF0.out.trans ((hF1.trans hF2).trans hF3)).new hFW (by omega)⟩
  · rw [decide_eq_false m1] at HM1
    rw [if_neg (fun h => m1 h.2)]
    by_cases h2 : r = 1
    case neg =>
      have h2b : (r == 1) = false := by simpa using h2
      rw [if_neg (fun h => h2 h.1)]
      by_cases h1 : c = 1
      case pos =>
        have hs := True.intro
        subst h1
        clear HM2
        clear hA hV hU hG hO hF0 hs hR0 hK0
        try clear ho
        try clear m1
        try clear m2
        go_enter Tryz.func15, Tryz.ntmps15
        go_wp2_with (first
          | (go_at_call 19; refine HC.mono ?_; rintro e w1 ⟨rfl, hF1⟩; have g0 := (HB.out _ (hF1)).1.c0; have g1 := (HB.out _ (hF1)).1.c1; have g2 := (HB.out _ (hF1)).1.c2; have g3 := (HB.out _ (hF1)).1.c3; have g4 := (HB.out _ (hF1)).1.c4; skip)
          | (go_at_call 31; refine (HO _).mono ?_; rintro e w2 ⟨rfl, hF2⟩; have k0 := (HB.out _ (hF1.trans hF2)).1.c0; have k1 := (HB.out _ (hF1.trans hF2)).1.c1; have k2 := (HB.out _ (hF1.trans hF2)).1.c2; have k3 := (HB.out _ (hF1.trans hF2)).1.c3; have k4 := (HB.out _ (hF1.trans hF2)).1.c4; skip)
          | (go_at_call 36; with_reducible refine (HM1 _).mono ?_; rintro e w8 ⟨rfl, hw⟩; rw [hw]; clear hw) | (go_at_call 36; with_reducible refine (HM2 _).mono ?_; rintro e w8 ⟨rfl, hw⟩; rw [hw]; clear hw)
          | (go_at_call 32; with_reducible refine (HE _).mono ?_; rintro e w3 ⟨rfl, hF3⟩; have hO3 := (HB.out _ ((hF1.trans hF2).trans hF3)).2)
          | (refine wpList_store_val rfl (.tmp 10) (.tmp 53) rfl (w.heap.size + 1) 4 0 ⟨#[]⟩ false 3 rfl rfl hO3 ?_; intro W hW hFW))
        exact bodyPost_ret (vret Tryz.results15 _ _ _ rfl hW) rfl ⟨rfl, (HF0.out.trans ((hF1.trans hF2).trans hF3)).new hFW (by omega)⟩
      case neg =>
        have hs := True.intro
        have h1b : (c == 1) = false := by simpa using h1
        clear HM1 HM2
        clear hA hV hU hG hO hF0 hs hR0 hK0
        try clear ho
        try clear m1
        try clear m2
        go_enter Tryz.func15, Tryz.ntmps15
        go_wp2_with (first
          | (go_at_call 19; refine HC.mono ?_; rintro e w1 ⟨rfl, hF1⟩; have g0 := (HB.out _ (hF1)).1.c0; have g1 := (HB.out _ (hF1)).1.c1; have g2 := (HB.out _ (hF1)).1.c2; have g3 := (HB.out _ (hF1)).1.c3; have g4 := (HB.out _ (hF1)).1.c4; skip)
          | (go_at_call 31; refine (HO _).mono ?_; rintro e w2 ⟨rfl, hF2⟩; have k0 := (HB.out _ (hF1.trans hF2)).1.c0; have k1 := (HB.out _ (hF1.trans hF2)).1.c1; have k2 := (HB.out _ (hF1.trans hF2)).1.c2; have k3 := (HB.out _ (hF1.trans hF2)).1.c3; have k4 := (HB.out _ (hF1.trans hF2)).1.c4; skip)
          | (go_at_call 36; with_reducible refine (HM1 _).mono ?_; rintro e w8 ⟨rfl, hw⟩; rw [hw]; clear hw) | (go_at_call 36; with_reducible refine (HM2 _).mono ?_; rintro e w8 ⟨rfl, hw⟩; rw [hw]; clear hw)
          | (go_at_call 32; with_reducible refine (HE _).mono ?_; rintro e w3 ⟨rfl, hF3⟩; have hO3 := (HB.out _ ((hF1.trans hF2).trans hF3)).2)
          | (refine wpList_store_val rfl (.tmp 10) (.tmp 53) rfl (w.heap.size + 1) 4 0 ⟨#[]⟩ false 3 rfl rfl hO3 ?_; intro W hW hFW))
        exact bodyPost_ret (vret Tryz.results15 _ _ _ rfl hW) rfl ⟨rfl, (HF0.out.trans ((hF1.trans hF2).trans hF3)).new hFW (by omega)⟩
    have h1 : ¬ c = 1 := fun h => ho ⟨h2, h⟩
    have h1b : (c == 1) = false := by simpa using h1
    by_cases m2 : left + (c - 1) ≤ 9223372036854775807 ∧ left ≤ col ∧ col ≤ left + (c - 1)
    case pos =>
      have hs := True.intro
      rw [decide_eq_true m2] at HM2
      rw [if_pos ⟨h2, m2⟩, hK0]
      have y0 : 0 ≤ col - left := by omega
      have y1 : col - left ≤ 1048576 := by omega
      subst h2
      clear HM1
      clear hA hV hU hG hO hF0 hs hR0 hK0
      try clear ho
      try clear m1
      try clear m2
      go_enter Tryz.func15, Tryz.ntmps15
      go_wp2_with (first
        | (go_at_call 19; refine HC.mono ?_; rintro e w1 ⟨rfl, hF1⟩; have g0 := (HB.out _ (hF1)).1.c0; have g1 := (HB.out _ (hF1)).1.c1; have g2 := (HB.out _ (hF1)).1.c2; have g3 := (HB.out _ (hF1)).1.c3; have g4 := (HB.out _ (hF1)).1.c4; skip)
        | (go_at_call 31; refine (HO _).mono ?_; rintro e w2 ⟨rfl, hF2⟩; have k0 := (HB.out _ (hF1.trans hF2)).1.c0; have k1 := (HB.out _ (hF1.trans hF2)).1.c1; have k2 := (HB.out _ (hF1.trans hF2)).1.c2; have k3 := (HB.out _ (hF1.trans hF2)).1.c3; have k4 := (HB.out _ (hF1.trans hF2)).1.c4; skip)
        | (go_at_call 36; with_reducible refine (HM1 _).mono ?_; rintro e w8 ⟨rfl, hw⟩; rw [hw]; clear hw) | (go_at_call 36; with_reducible refine (HM2 _).mono ?_; rintro e w8 ⟨rfl, hw⟩; rw [hw]; clear hw)
        | (go_at_call 33; with_reducible refine (HK.out _ (HF0.out.trans (hF1.trans hF2))).mono ?_; rintro e w3 ⟨rfl, hF3⟩; have hO3 := (HB.out _ ((hF1.trans hF2).trans hF3)).2)
        | (refine wpList_store_val rfl (.tmp 10) (.tmp 52) rfl (w.heap.size + 1) (Kv).k (Kv).n (Kv).s (Kv).y (Kv).e rfl rfl hO3 ?_; intro W hW hFW))
      exact bodyPost_ret (vret Tryz.results15 _ _ _ rfl hW) rfl ⟨rfl, (HF0.out.trans ((hF1.trans hF2).trans hF3)).new hFW (by omega)⟩
    case neg =>
      have hs := True.intro
      rw [decide_eq_false m2] at HM2
      rw [if_neg (fun h => m2 h.2)]
      subst h2
      clear HM1
      clear hA hV hU hG hO hF0 hs hR0 hK0
      try clear ho
      try clear m1
      try clear m2
      go_enter Tryz.func15, Tryz.ntmps15
      go_wp2_with (first
        | (go_at_call 19; refine HC.mono ?_; rintro e w1 ⟨rfl, hF1⟩; have g0 := (HB.out _ (hF1)).1.c0; have g1 := (HB.out _ (hF1)).1.c1; have g2 := (HB.out _ (hF1)).1.c2; have g3 := (HB.out _ (hF1)).1.c3; have g4 := (HB.out _ (hF1)).1.c4; skip)
        | (go_at_call 31; refine (HO _).mono ?_; rintro e w2 ⟨rfl, hF2⟩; have k0 := (HB.out _ (hF1.trans hF2)).1.c0; have k1 := (HB.out _ (hF1.trans hF2)).1.c1; have k2 := (HB.out _ (hF1.trans hF2)).1.c2; have k3 := (HB.out _ (hF1.trans hF2)).1.c3; have k4 := (HB.out _ (hF1.trans hF2)).1.c4; skip)
        | (go_at_call 36; with_reducible refine (HM1 _).mono ?_; rintro e w8 ⟨rfl, hw⟩; rw [hw]; clear hw) | (go_at_call 36; with_reducible refine (HM2 _).mono ?_; rintro e w8 ⟨rfl, hw⟩; rw [hw]; clear hw)
        | (go_at_call 32; with_reducible refine (HE _).mono ?_; rintro e w3 ⟨rfl, hF3⟩; have hO3 := (HB.out _ ((hF1.trans hF2).trans hF3)).2)
        | (refine wpList_store_val rfl (.tmp 10) (.tmp 53) rfl (w.heap.size + 1) 4 0 ⟨#[]⟩ false 3 rfl rfl hO3 ?_; intro W hW hFW))
      exact bodyPost_ret (vret Tryz.results15 _ _ _ rfl hW) rfl ⟨rfl, (HF0.out.trans ((hF1.trans hF2).trans hF3)).new hFW (by omega)⟩
#print axioms pcut_any
end Go.Proofs.YtpjbobbmldplbaaGreatDoor
/- The one value that an area has for a cell: the document's Cut. -/
namespace Go.Proofs.YtpjbobbmldplbaaGreatDoor
open Go.RowKit Ieee Go.Shelf
attribute [local go_sem] run_store_float

set_option maxRecDepth 100000 in
set_option maxHeartbeats 8000000 in
theorem rcut_any (rf ms : Bool) (r c : Int) (ao : Option Addr) (cap : Nat) (P : List Pl) (top left row col : Int) (t1 : -9223372036854775808 ≤ top) (t2 : top ≤ 9223372036854775807) (l1 : -9223372036854775808 ≤ left) (l2 : left ≤ 9223372036854775807) (r1 : -9223372036854775808 ≤ row) (r2 : row ≤ 9223372036854775807) (c1 : -9223372036854775808 ≤ col) (c2 : col ≤ 9223372036854775807) (w : World) (hA : PsAt w ao P) (hl : P.length ≤ 140737488355328) (hV : ∀ p ∈ P, Vok p.v) (hU : U8 w) :
    Calls Tryz.prog 16 #[.agg #[.bool rf, .bool ms, .int .i64 r, .int .i64 c, .slice ao P.length cap], .int .i64 top, .int .i64 left, .int .i64 row, .int .i64 col] w fun e w' => e = .returned (.agg #[.int .i64 (cutF ms r c P top left row col).k, .float .f64 (cutF ms r c P top left row col).n, .string (cutF ms r c P top left row col).s, .bool (cutF ms r c P top left row col).y, .int .i64 (cutF ms r c P top left row col).e]) ∧ Fr noB w w' := by
  have hF0 : Fr noB w ((w.alloc (.cells #[.bool rf, .bool ms, .int .i64 r, .int .i64 c, .slice ao P.length cap] 24 (0, 0))).alloc (.cells #[.int .i64 0, .float .f64 0, .string ⟨#[]⟩, .bool false, .int .i64 0] 37 (0, 0))) := ((Fr.refl noB w).alloc _).alloc _
  have hG : GAt ((w.alloc (.cells #[.bool rf, .bool ms, .int .i64 r, .int .i64 c, .slice ao P.length cap] 24 (0, 0))).alloc (.cells #[.int .i64 0, .float .f64 0, .string ⟨#[]⟩, .bool false, .int .i64 0] 37 (0, 0))) w.heap.size rf ms r c ao P.length cap := ⟨old1 (new1 _ _ _ rfl)⟩
  have hO : VAt ((w.alloc (.cells #[.bool rf, .bool ms, .int .i64 r, .int .i64 c, .slice ao P.length cap] 24 (0, 0))).alloc (.cells #[.int .i64 0, .float .f64 0, .string ⟨#[]⟩, .bool false, .int .i64 0] 37 (0, 0))) (w.heap.size + 1) 0 0 ⟨#[]⟩ false 0 := ⟨new1 _ _ _ (by simp)⟩
  have HB : Hid (∀ W, Fr noB ((w.alloc (.cells #[.bool rf, .bool ms, .int .i64 r, .int .i64 c, .slice ao P.length cap] 24 (0, 0))).alloc (.cells #[.int .i64 0, .float .f64 0, .string ⟨#[]⟩, .bool false, .int .i64 0] 37 (0, 0))) W → GAt W w.heap.size rf ms r c ao P.length cap ∧ VAt W (w.heap.size + 1) 0 0 ⟨#[]⟩ false 0) := fun W h => ⟨hG.fr h id, hO.fr h id⟩
  have HF0 : Hid (Fr noB w ((w.alloc (.cells #[.bool rf, .bool ms, .int .i64 r, .int .i64 c, .slice ao P.length cap] 24 (0, 0))).alloc (.cells #[.int .i64 0, .float .f64 0, .string ⟨#[]⟩, .bool false, .int .i64 0] 37 (0, 0)))) := hF0
  have HC := rarg_any rf ms r c ao cap P ((w.alloc (.cells #[.bool rf, .bool ms, .int .i64 r, .int .i64 c, .slice ao P.length cap] 24 (0, 0))).alloc (.cells #[.int .i64 0, .float .f64 0, .string ⟨#[]⟩, .bool false, .int .i64 0] 37 (0, 0))) (hA.keep hF0) hl hV (hU.fr hF0)
  have HE : ∀ W, _ := rerr_any 3
  have HS : Hid (∀ W, Fr noB w W → Calls Tryz.prog 14 #[.agg #[.bool rf, .bool ms, .int .i64 r, .int .i64 c, .slice ao P.length cap]] W fun e w' => e = .returned (.agg #[.int .i64 (sglF ms r c P).k, .float .f64 (sglF ms r c P).n, .string (sglF ms r c P).s, .bool (sglF ms r c P).y, .int .i64 (sglF ms r c P).e]) ∧ Fr noB W w') := fun W h => rsingle_any rf ms r c ao cap P W (hA.keep h) hl hV (hU.fr h)
  obtain ⟨Rv, hR0⟩ : ∃ v, toldF P (row - top) (0) = v := ⟨_, rfl⟩
  have HR : Hid (∀ W, Fr noB w W → Calls Tryz.prog 35 #[.agg #[.bool rf, .bool ms, .int .i64 r, .int .i64 c, .slice ao P.length cap], .int .i64 (row - top), .int .i64 (0)] W fun e w' => e = .returned (.agg #[.int .i64 (Rv).k, .float .f64 (Rv).n, .string (Rv).s, .bool (Rv).y, .int .i64 (Rv).e]) ∧ Fr noB W w') := fun W h => by
    have hh := place_any rf ms r c ao cap P (row - top) (0) W (hA.keep h) hl hV
    rw [hR0] at hh
    exact hh
  obtain ⟨Kv, hK0⟩ : ∃ v, toldF P (0) (col - left) = v := ⟨_, rfl⟩
  have HK : Hid (∀ W, Fr noB w W → Calls Tryz.prog 35 #[.agg #[.bool rf, .bool ms, .int .i64 r, .int .i64 c, .slice ao P.length cap], .int .i64 (0), .int .i64 (col - left)] W fun e w' => e = .returned (.agg #[.int .i64 (Kv).k, .float .f64 (Kv).n, .string (Kv).s, .bool (Kv).y, .int .i64 (Kv).e]) ∧ Fr noB W w') := fun W h => by
    have hh := place_any rf ms r c ao cap P (0) (col - left) W (hA.keep h) hl hV
    rw [hK0] at hh
    exact hh
  by_cases hq : argF ckV ms r c P = 0
  case neg =>
      have hs : cutF ms r c P top left row col = sglF ms r c P := by unfold cutF; rw [if_neg (fun h => hq h.1)]
      rw [hs]
      have q2 : (argF ckV ms r c P != 0) = true := by simpa using hq
      generalize argF ckV ms r c P = Q at *
      generalize sglF ms r c P = X at *
      clear hA hV hU hG hO hF0 hs hR0 hK0
      try clear ho
      go_enter Tryz.func16, Tryz.ntmps16
      go_wp2_with (first
        | (go_at_call 21; refine HC.mono ?_; rintro e w1 ⟨rfl, hF1⟩; have g0 := (HB.out _ (hF1)).1.c0; have g1 := (HB.out _ (hF1)).1.c1; have g2 := (HB.out _ (hF1)).1.c2; have g3 := (HB.out _ (hF1)).1.c3; have g4 := (HB.out _ (hF1)).1.c4; skip)
        | (go_at_call 14; with_reducible refine (HS.out _ (HF0.out.trans hF1)).mono ?_; rintro e w3 ⟨rfl, hF3⟩; have hO3 := (HB.out _ (hF1.trans hF3)).2)
        | (refine wpList_store_val rfl (.tmp 10) (.tmp 23) rfl (w.heap.size + 1) (X).k (X).n (X).s (X).y (X).e rfl rfl hO3 ?_; intro W hW hFW))
      exact bodyPost_ret (vret Tryz.results16 _ _ _ rfl hW) rfl ⟨rfl, (HF0.out.trans (hF1.trans hF3)).new hFW (by omega)⟩
  obtain ⟨b1, b2, b3, b4⟩ := arg_ok hq
  obtain ⟨e1, e2, e3⟩ := one_mul b1 b2 b3 b4
  have hCF := hq
  rw [hq] at HC
  by_cases ho : r = 1 ∧ c = 1
  case pos =>
      have hs : cutF ms r c P top left row col = sglF ms r c P := by unfold cutF; rw [if_neg (fun h => h.2 ho)]
      rw [hs]
      generalize sglF ms r c P = X at *
      obtain ⟨rfl, rfl⟩ := ho
      clear hq hCF e1 e2 e3
      clear hA hV hU hG hO hF0 hs hR0 hK0
      try clear ho
      go_enter Tryz.func16, Tryz.ntmps16
      go_wp2_with (first
        | (go_at_call 21; refine HC.mono ?_; rintro e w1 ⟨rfl, hF1⟩; have g0 := (HB.out _ (hF1)).1.c0; have g1 := (HB.out _ (hF1)).1.c1; have g2 := (HB.out _ (hF1)).1.c2; have g3 := (HB.out _ (hF1)).1.c3; have g4 := (HB.out _ (hF1)).1.c4; skip)
        
        
        | (go_at_call 14; with_reducible refine (HS.out _ (HF0.out.trans hF1)).mono ?_; rintro e w3 ⟨rfl, hF3⟩; have hO3 := (HB.out _ (hF1.trans hF3)).2)
        | (refine wpList_store_val rfl (.tmp 10) (.tmp 23) rfl (w.heap.size + 1) (X).k (X).n (X).s (X).y (X).e rfl rfl hO3 ?_; intro W hW hFW))
      exact bodyPost_ret (vret Tryz.results16 _ _ _ rfl hW) rfl ⟨rfl, (HF0.out.trans (hF1.trans hF3)).new hFW (by omega)⟩
  have hcut : cutF ms r c P top left row col = (if c = 1 ∧ top + (r - 1) ≤ 9223372036854775807 ∧ top ≤ row ∧ row ≤ top + (r - 1) then toldF P (row - top) 0 else if r = 1 ∧ left + (c - 1) ≤ 9223372036854775807 ∧ left ≤ col ∧ col ≤ left + (c - 1) then toldF P 0 (col - left) else errV) := by unfold cutF; rw [if_pos ⟨hq, ho⟩]
  rw [hcut]
  clear hcut hCF HS hq
  obtain ⟨m, hm⟩ : ∃ m, r * c = m := ⟨_, rfl⟩
  rw [hm] at e1 e2 e3
  have hm2 : (m == 1) = false := by simp; exact fun h => ho (e1.1 h)
  obtain ⟨T1, T2, u1, u2, u3, u4, u5⟩ := wrap_two t1 t2 b1 b2
  obtain ⟨S1, S2, v1, v2, v3, v4, v5⟩ := wrap_two (t := left) (r := c) l1 l2 b3 (by omega)
  clear e1
  by_cases d1 : T2 < top
  case pos =>
      have hs := True.intro
      rw [if_neg (by omega), if_neg (by omega)]
      clear u5 v5
      clear hA hV hU hG hO hF0 hs hR0 hK0
      try clear ho
      go_enter Tryz.func16, Tryz.ntmps16
      go_wp2_with (first
        | (go_at_call 21; refine HC.mono ?_; rintro e w1 ⟨rfl, hF1⟩; have g0 := (HB.out _ (hF1)).1.c0; have g1 := (HB.out _ (hF1)).1.c1; have g2 := (HB.out _ (hF1)).1.c2; have g3 := (HB.out _ (hF1)).1.c3; have g4 := (HB.out _ (hF1)).1.c4; skip)
        
        
        | (go_at_call 34; with_reducible refine (HE _).mono ?_; rintro e w3 ⟨rfl, hF3⟩; have hO3 := (HB.out _ (hF1.trans hF3)).2)
        | (refine wpList_store_val rfl (.tmp 10) (.tmp 40) rfl (w.heap.size + 1) 4 0 ⟨#[]⟩ false 3 rfl rfl hO3 ?_; intro W hW hFW))
      exact bodyPost_ret (vret Tryz.results16 _ _ _ rfl hW) rfl ⟨rfl, (HF0.out.trans (hF1.trans hF3)).new hFW (by omega)⟩
  by_cases d2 : S2 < left
  case pos =>
      have hs := True.intro
      rw [if_neg (by omega), if_neg (by omega)]
      clear u5 v5
      clear hA hV hU hG hO hF0 hs hR0 hK0
      try clear ho
      go_enter Tryz.func16, Tryz.ntmps16
      go_wp2_with (first
        | (go_at_call 21; refine HC.mono ?_; rintro e w1 ⟨rfl, hF1⟩; have g0 := (HB.out _ (hF1)).1.c0; have g1 := (HB.out _ (hF1)).1.c1; have g2 := (HB.out _ (hF1)).1.c2; have g3 := (HB.out _ (hF1)).1.c3; have g4 := (HB.out _ (hF1)).1.c4; skip)
        
        
        | (go_at_call 34; with_reducible refine (HE _).mono ?_; rintro e w3 ⟨rfl, hF3⟩; have hO3 := (HB.out _ (hF1.trans hF3)).2)
        | (refine wpList_store_val rfl (.tmp 10) (.tmp 40) rfl (w.heap.size + 1) 4 0 ⟨#[]⟩ false 3 rfl rfl hO3 ?_; intro W hW hFW))
      exact bodyPost_ret (vret Tryz.results16 _ _ _ rfl hW) rfl ⟨rfl, (HF0.out.trans (hF1.trans hF3)).new hFW (by omega)⟩
  have x1 : T2 = top + (r - 1) ∧ top + (r - 1) ≤ 9223372036854775807 := by omega
  have x2 : S2 = left + (c - 1) ∧ left + (c - 1) ≤ 9223372036854775807 := by omega
  by_cases h1 : c = 1
  case pos =>
    have h2 : ¬ r = 1 := fun h => ho ⟨h, h1⟩
    have h2b : (r == 1) = false := by simpa using h2
    have h1b : (c == 1) = true := by simpa using h1
    by_cases m1 : top ≤ row
    case neg =>
      have hs := True.intro
      rw [if_neg (by omega), if_neg (by omega)]
      clear u5 v5 x1 x2 h1
      clear hA hV hU hG hO hF0 hs hR0 hK0
      try clear ho
      go_enter Tryz.func16, Tryz.ntmps16
      go_wp2_with (first
        | (go_at_call 21; refine HC.mono ?_; rintro e w1 ⟨rfl, hF1⟩; have g0 := (HB.out _ (hF1)).1.c0; have g1 := (HB.out _ (hF1)).1.c1; have g2 := (HB.out _ (hF1)).1.c2; have g3 := (HB.out _ (hF1)).1.c3; have g4 := (HB.out _ (hF1)).1.c4; skip)
        
        
        | (go_at_call 34; with_reducible refine (HE _).mono ?_; rintro e w3 ⟨rfl, hF3⟩; have hO3 := (HB.out _ (hF1.trans hF3)).2)
        | (refine wpList_store_val rfl (.tmp 10) (.tmp 85) rfl (w.heap.size + 1) 4 0 ⟨#[]⟩ false 3 rfl rfl hO3 ?_; intro W hW hFW))
      exact bodyPost_ret (vret Tryz.results16 _ _ _ rfl hW) rfl ⟨rfl, (HF0.out.trans (hF1.trans hF3)).new hFW (by omega)⟩
    by_cases m2 : row ≤ T2
    case neg =>
      have hs := True.intro
      rw [if_neg (by omega), if_neg (by omega)]
      clear u5 v5 x1 x2 h1
      clear hA hV hU hG hO hF0 hs hR0 hK0
      try clear ho
      go_enter Tryz.func16, Tryz.ntmps16
      go_wp2_with (first
        | (go_at_call 21; refine HC.mono ?_; rintro e w1 ⟨rfl, hF1⟩; have g0 := (HB.out _ (hF1)).1.c0; have g1 := (HB.out _ (hF1)).1.c1; have g2 := (HB.out _ (hF1)).1.c2; have g3 := (HB.out _ (hF1)).1.c3; have g4 := (HB.out _ (hF1)).1.c4; skip)
        
        
        | (go_at_call 34; with_reducible refine (HE _).mono ?_; rintro e w3 ⟨rfl, hF3⟩; have hO3 := (HB.out _ (hF1.trans hF3)).2)
        | (refine wpList_store_val rfl (.tmp 10) (.tmp 85) rfl (w.heap.size + 1) 4 0 ⟨#[]⟩ false 3 rfl rfl hO3 ?_; intro W hW hFW))
      exact bodyPost_ret (vret Tryz.results16 _ _ _ rfl hW) rfl ⟨rfl, (HF0.out.trans (hF1.trans hF3)).new hFW (by omega)⟩
    case pos =>
      have hs := True.intro
      rw [if_pos (by omega), hR0]
      have y1 : row - top ≤ 1048576 := by omega
      clear u5 v5 x1 x2 h1
      clear hA hV hU hG hO hF0 hs hR0 hK0
      try clear ho
      go_enter Tryz.func16, Tryz.ntmps16
      go_wp2_with (first
        | (go_at_call 21; refine HC.mono ?_; rintro e w1 ⟨rfl, hF1⟩; have g0 := (HB.out _ (hF1)).1.c0; have g1 := (HB.out _ (hF1)).1.c1; have g2 := (HB.out _ (hF1)).1.c2; have g3 := (HB.out _ (hF1)).1.c3; have g4 := (HB.out _ (hF1)).1.c4; skip)
        
        
        | (go_at_call 35; with_reducible refine (HR.out _ (HF0.out.trans hF1)).mono ?_; rintro e w3 ⟨rfl, hF3⟩; have hO3 := (HB.out _ (hF1.trans hF3)).2)
        | (refine wpList_store_val rfl (.tmp 10) (.tmp 62) rfl (w.heap.size + 1) (Rv).k (Rv).n (Rv).s (Rv).y (Rv).e rfl rfl hO3 ?_; intro W hW hFW))
      exact bodyPost_ret (vret Tryz.results16 _ _ _ rfl hW) rfl ⟨rfl, (HF0.out.trans (hF1.trans hF3)).new hFW (by omega)⟩
  case neg =>
    have h1b : (c == 1) = false := by simpa using h1
    rw [if_neg (fun h => h1 h.1)]
    by_cases h2 : r = 1
    case neg =>
      have hs := True.intro
      have h2b : (r == 1) = false := by simpa using h2
      rw [if_neg (fun h => h2 h.1)]
      clear u5 v5 x1 x2
      clear hA hV hU hG hO hF0 hs hR0 hK0
      try clear ho
      go_enter Tryz.func16, Tryz.ntmps16
      go_wp2_with (first
        | (go_at_call 21; refine HC.mono ?_; rintro e w1 ⟨rfl, hF1⟩; have g0 := (HB.out _ (hF1)).1.c0; have g1 := (HB.out _ (hF1)).1.c1; have g2 := (HB.out _ (hF1)).1.c2; have g3 := (HB.out _ (hF1)).1.c3; have g4 := (HB.out _ (hF1)).1.c4; skip)
        
        
        | (go_at_call 34; with_reducible refine (HE _).mono ?_; rintro e w3 ⟨rfl, hF3⟩; have hO3 := (HB.out _ (hF1.trans hF3)).2)
        | (refine wpList_store_val rfl (.tmp 10) (.tmp 85) rfl (w.heap.size + 1) 4 0 ⟨#[]⟩ false 3 rfl rfl hO3 ?_; intro W hW hFW))
      exact bodyPost_ret (vret Tryz.results16 _ _ _ rfl hW) rfl ⟨rfl, (HF0.out.trans (hF1.trans hF3)).new hFW (by omega)⟩
    have h2b : (r == 1) = true := by simpa using h2
    by_cases m1 : left ≤ col
    case neg =>
      have hs := True.intro
      rw [if_neg (by omega)]
      clear u5 v5 x1 x2 h2
      clear hA hV hU hG hO hF0 hs hR0 hK0
      try clear ho
      go_enter Tryz.func16, Tryz.ntmps16
      go_wp2_with (first
        | (go_at_call 21; refine HC.mono ?_; rintro e w1 ⟨rfl, hF1⟩; have g0 := (HB.out _ (hF1)).1.c0; have g1 := (HB.out _ (hF1)).1.c1; have g2 := (HB.out _ (hF1)).1.c2; have g3 := (HB.out _ (hF1)).1.c3; have g4 := (HB.out _ (hF1)).1.c4; skip)
        
        
        | (go_at_call 34; with_reducible refine (HE _).mono ?_; rintro e w3 ⟨rfl, hF3⟩; have hO3 := (HB.out _ (hF1.trans hF3)).2)
        | (refine wpList_store_val rfl (.tmp 10) (.tmp 85) rfl (w.heap.size + 1) 4 0 ⟨#[]⟩ false 3 rfl rfl hO3 ?_; intro W hW hFW))
      exact bodyPost_ret (vret Tryz.results16 _ _ _ rfl hW) rfl ⟨rfl, (HF0.out.trans (hF1.trans hF3)).new hFW (by omega)⟩
    by_cases m2 : col ≤ S2
    case neg =>
      have hs := True.intro
      rw [if_neg (by omega)]
      clear u5 v5 x1 x2 h2
      clear hA hV hU hG hO hF0 hs hR0 hK0
      try clear ho
      go_enter Tryz.func16, Tryz.ntmps16
      go_wp2_with (first
        | (go_at_call 21; refine HC.mono ?_; rintro e w1 ⟨rfl, hF1⟩; have g0 := (HB.out _ (hF1)).1.c0; have g1 := (HB.out _ (hF1)).1.c1; have g2 := (HB.out _ (hF1)).1.c2; have g3 := (HB.out _ (hF1)).1.c3; have g4 := (HB.out _ (hF1)).1.c4; skip)
        
        
        | (go_at_call 34; with_reducible refine (HE _).mono ?_; rintro e w3 ⟨rfl, hF3⟩; have hO3 := (HB.out _ (hF1.trans hF3)).2)
        | (refine wpList_store_val rfl (.tmp 10) (.tmp 85) rfl (w.heap.size + 1) 4 0 ⟨#[]⟩ false 3 rfl rfl hO3 ?_; intro W hW hFW))
      exact bodyPost_ret (vret Tryz.results16 _ _ _ rfl hW) rfl ⟨rfl, (HF0.out.trans (hF1.trans hF3)).new hFW (by omega)⟩
    case pos =>
      have hs := True.intro
      rw [if_pos (by omega), hK0]
      have y1 : col - left ≤ 1024 := by omega
      clear u5 v5 x1 x2 h2
      clear hA hV hU hG hO hF0 hs hR0 hK0
      try clear ho
      go_enter Tryz.func16, Tryz.ntmps16
      go_wp2_with (first
        | (go_at_call 21; refine HC.mono ?_; rintro e w1 ⟨rfl, hF1⟩; have g0 := (HB.out _ (hF1)).1.c0; have g1 := (HB.out _ (hF1)).1.c1; have g2 := (HB.out _ (hF1)).1.c2; have g3 := (HB.out _ (hF1)).1.c3; have g4 := (HB.out _ (hF1)).1.c4; skip)
        
        
        | (go_at_call 35; with_reducible refine (HK.out _ (HF0.out.trans hF1)).mono ?_; rintro e w3 ⟨rfl, hF3⟩; have hO3 := (HB.out _ (hF1.trans hF3)).2)
        | (refine wpList_store_val rfl (.tmp 10) (.tmp 84) rfl (w.heap.size + 1) (Kv).k (Kv).n (Kv).s (Kv).y (Kv).e rfl rfl hO3 ?_; intro W hW hFW))
      exact bodyPost_ret (vret Tryz.results16 _ _ _ rfl hW) rfl ⟨rfl, (HF0.out.trans (hF1.trans hF3)).new hFW (by omega)⟩
#print axioms rcut_any
end Go.Proofs.YtpjbobbmldplbaaGreatDoor
/- The value at a place of an array that may be: at, At of both. -/
namespace Go.Proofs.YtpjbobbmldplbaaGreatDoor
open Go.RowKit Ieee Go.Shelf
attribute [local go_sem] run_store_float

section
variable {w : World} {B : Nat} {r c : Int} {ao : Option Addr} {n cap : Nat} (h : AAt w B r c ao n cap)
include h
theorem AAt.d0 : w.cell? ⟨B, 0, none⟩ = some (.int .i64 r) := cellOf (o := 0) h.o rfl
theorem AAt.d1 : w.cell? ⟨B, 1, none⟩ = some (.int .i64 c) := cellOf (o := 1) h.o rfl
theorem AAt.d2 : w.cell? ⟨B, 2, none⟩ = some (.slice ao n cap) := cellOf (o := 2) h.o rfl
end
set_option maxRecDepth 100000 in
theorem full_ok (r c : Int) (ao : Option Addr) (cap n : Nat) (w : World) (h1 : 1 ≤ r) (h2 : 1 ≤ c) (h3 : (n : Int) = r * c) (h4 : r * c ≤ 4096) :
    Calls Tryz.prog 54 #[.agg #[.int .i64 r, .int .i64 c, .slice ao n cap]] w fun e w' => e = .returned (.bool true) ∧ Fr noB w w' := by
  have hF0 : Fr noB w (w.alloc (.cells #[.int .i64 r, .int .i64 c, .slice ao n cap] 27 (0, 0))) := (Fr.refl noB w).alloc _
  have e1 : (n : Int) % c = 0 := by rw [h3]; exact Int.mul_emod_left r c
  have e2 : (n : Int) / c = r := by rw [h3]; exact Int.mul_ediv_cancel r (by omega)
  have hn : n ≤ 4096 := by omega
  have hr : r ≤ 4096 := by
    have := Int.mul_le_mul_of_nonneg_left (show 1 ≤ c by omega) (show 0 ≤ r by omega)
    omega
  have hA0 : AAt (w.alloc (.cells #[.int .i64 r, .int .i64 c, .slice ao n cap] 27 (0, 0))) w.heap.size r c ao n cap := ⟨new1 _ _ _ rfl⟩
  have hc0 : ¬ c = 0 := by omega
  clear h3 h4
  go_enter Tryz.func54, Tryz.ntmps54
  go_wp2_with fail
  generalize w.alloc (.cells #[.int .i64 r, .int .i64 c, .slice ao n cap] 27 (0, 0)) = W0 at hA0 hF0 ⊢
  have x0 : W0.cell? ⟨w.heap.size, 0, none⟩ = some (.int .i64 r) := cellOf (o := 0) hA0.o rfl
  have x1 : W0.cell? ⟨w.heap.size, 1, none⟩ = some (.int .i64 c) := cellOf (o := 1) hA0.o rfl
  have x2 : W0.cell? ⟨w.heap.size, 2, none⟩ = some (.slice ao n cap) := cellOf (o := 2) hA0.o rfl
  clear hA0
  go_quiet (fail)
  go_wp2_with fail
  go_ret
  exact ⟨rfl, hF0.drewN _⟩
set_option maxRecDepth 100000 in
set_option maxHeartbeats 400000 in
theorem at_ok (r c row col : Int) (ao : Option Addr) (cap : Nat) (L : List Vv) (w : World) (hA : VsAt w ao L) (h1 : 1 ≤ r) (h2 : 1 ≤ c) (h3 : (L.length : Int) = r * c) (h4 : r * c ≤ 4096) (h5 : 0 ≤ row) (h6 : row < r) (h7 : 0 ≤ col) (h8 : col < c) (i : Nat) (hi : (i : Int) = row * c + col) (hiL : i < L.length) (v : Vv) (hv : L[i] = v) :
    Calls Tryz.prog 46 #[.agg #[.int .i64 r, .int .i64 c, .slice ao L.length cap], .int .i64 row, .int .i64 col] w fun e w' => e = .returned (.agg #[.int .i64 v.k, .float .f64 v.n, .string v.s, .bool v.y, .int .i64 v.e]) ∧ Fr noB w w' := by
  have HC : ∀ W, _ := fun W => full_ok r c ao cap L.length W h1 h2 h3 h4
  have hr : r ≤ 4096 := by
    have := Int.mul_le_mul_of_nonneg_left (show 1 ≤ c by omega) (show 0 ≤ r by omega)
    omega
  have hc : c ≤ 4096 := by
    have := Int.mul_le_mul_of_nonneg_right (show 1 ≤ r by omega) (show 0 ≤ c by omega)
    omega
  obtain ⟨q, hq⟩ : ∃ q, row * c = q := ⟨_, rfl⟩
  have hq0 : 0 ≤ q := by rw [← hq]; exact Int.mul_nonneg h5 (by omega)
  have hq1 : q + col < 4096 := by rw [hq] at hi; omega
  obtain ⟨b, off, rfl, hb, c0, c1, c2, c3, c4⟩ := hA.get i hiL
  rw [hv] at c0 c1 c2 c3 c4
  have HG : Hid (∀ W, Fr noB w W → W.cell? ⟨b, off + i * 5, none⟩ = some (.int .i64 v.k) ∧ W.cell? ⟨b, off + i * 5 + 1, none⟩ = some (.float .f64 v.n) ∧ W.cell? ⟨b, off + i * 5 + 2, none⟩ = some (.string v.s) ∧ W.cell? ⟨b, off + i * 5 + 3, none⟩ = some (.bool v.y) ∧ W.cell? ⟨b, off + i * 5 + 4, none⟩ = some (.int .i64 v.e)) := fun W h => ⟨(h.cell (a := ⟨b, off + i * 5, none⟩) hb id).trans c0, (h.cell (a := ⟨b, off + i * 5 + 1, none⟩) hb id).trans c1, (h.cell (a := ⟨b, off + i * 5 + 2, none⟩) hb id).trans c2, (h.cell (a := ⟨b, off + i * 5 + 3, none⟩) hb id).trans c3, (h.cell (a := ⟨b, off + i * 5 + 4, none⟩) hb id).trans c4⟩
  clear c0 c1 c2 c3 c4 hb
  have hA0 : AAt ((w.alloc (.cells #[.int .i64 r, .int .i64 c, .slice (some ⟨b, off, none⟩) L.length cap] 27 (0, 0))).alloc (.cells #[.int .i64 0, .float .f64 0, .string ⟨#[]⟩, .bool false, .int .i64 0] 37 (0, 0))) w.heap.size r c (some ⟨b, off, none⟩) L.length cap := ⟨old1 (new1 _ _ _ rfl)⟩
  have hO : VAt ((w.alloc (.cells #[.int .i64 r, .int .i64 c, .slice (some ⟨b, off, none⟩) L.length cap] 27 (0, 0))).alloc (.cells #[.int .i64 0, .float .f64 0, .string ⟨#[]⟩, .bool false, .int .i64 0] 37 (0, 0))) (w.heap.size + 1) 0 0 ⟨#[]⟩ false 0 := ⟨new1 _ _ _ (by simp)⟩
  have HF0 : Hid (Fr noB w ((w.alloc (.cells #[.int .i64 r, .int .i64 c, .slice (some ⟨b, off, none⟩) L.length cap] 27 (0, 0))).alloc (.cells #[.int .i64 0, .float .f64 0, .string ⟨#[]⟩, .bool false, .int .i64 0] 37 (0, 0)))) := ((Fr.refl noB w).alloc _).alloc _
  have HB : Hid (∀ W, Fr noB ((w.alloc (.cells #[.int .i64 r, .int .i64 c, .slice (some ⟨b, off, none⟩) L.length cap] 27 (0, 0))).alloc (.cells #[.int .i64 0, .float .f64 0, .string ⟨#[]⟩, .bool false, .int .i64 0] 37 (0, 0))) W → AAt W w.heap.size r c (some ⟨b, off, none⟩) L.length cap ∧ VAt W (w.heap.size + 1) 0 0 ⟨#[]⟩ false 0) := fun W h => ⟨hA0.fr h id, hO.fr h id⟩
  obtain ⟨n, hn⟩ : ∃ n, L.length = n := ⟨_, rfl⟩
  rw [hn] at HC HB HF0 hiL ⊢
  clear hA0 hO
  rw [hq] at hi
  obtain rfl : i = (q + col).toNat := by omega
  clear hA hv hn h3
  by_cases a1 : r = 1
  · subst a1
    obtain rfl : row = 0 := by omega
    obtain rfl : q = 0 := by omega
    by_cases a2 : c = 1
    · subst a2
      obtain rfl : col = 0 := by omega
      rw [show ((0 : Int) + 0).toNat = 0 from rfl, Nat.zero_mul, Nat.add_zero] at HG
      clear hq
      go_enter Tryz.func46, Tryz.ntmps46
      go_wp2_with (first
        | (go_at_call 54; refine (HC _).mono ?_; rintro e w1 ⟨rfl, hF1⟩; have gA := (HB.out _ hF1).1; have hO1 := (HB.out _ hF1).2; have g0 := gA.d0; have g1 := gA.d1; have g2 := gA.d2; obtain ⟨c0, c1, c2, c3, c4⟩ := HG.out _ (HF0.out.trans hF1))
        | (refine wpList_store_val rfl (.tmp 6) (.tmp 46) rfl (w.heap.size + 1) v.k v.n v.s v.y v.e rfl rfl hO1 ?_; intro W hW hFW))

      exact bodyPost_ret (vret Tryz.results46 _ _ _ rfl hW) rfl ⟨rfl, (HF0.out.trans hF1).new hFW (by omega)⟩
    have a2b : (c == 1) = false := by simpa using a2
    rw [Int.zero_add] at HG
    clear hq
    go_enter Tryz.func46, Tryz.ntmps46
    go_wp2_with (first
      | (go_at_call 54; refine (HC _).mono ?_; rintro e w1 ⟨rfl, hF1⟩; have gA := (HB.out _ hF1).1; have hO1 := (HB.out _ hF1).2; have g0 := gA.d0; have g1 := gA.d1; have g2 := gA.d2; obtain ⟨c0, c1, c2, c3, c4⟩ := HG.out _ (HF0.out.trans hF1))
      | (refine wpList_store_val rfl (.tmp 6) (.tmp 46) rfl (w.heap.size + 1) v.k v.n v.s v.y v.e rfl rfl hO1 ?_; intro W hW hFW))

    exact bodyPost_ret (vret Tryz.results46 _ _ _ rfl hW) rfl ⟨rfl, (HF0.out.trans hF1).new hFW (by omega)⟩
  have a1b : (r == 1) = false := by simpa using a1
  by_cases a2 : c = 1
  · subst a2
    obtain rfl : col = 0 := by omega
    obtain rfl : row = q := by omega
    rw [Int.add_zero] at HG
    clear hq
    go_enter Tryz.func46, Tryz.ntmps46
    go_wp2_with (first
      | (go_at_call 54; refine (HC _).mono ?_; rintro e w1 ⟨rfl, hF1⟩; have gA := (HB.out _ hF1).1; have hO1 := (HB.out _ hF1).2; have g0 := gA.d0; have g1 := gA.d1; have g2 := gA.d2; obtain ⟨c0, c1, c2, c3, c4⟩ := HG.out _ (HF0.out.trans hF1))
      | (refine wpList_store_val rfl (.tmp 6) (.tmp 46) rfl (w.heap.size + 1) v.k v.n v.s v.y v.e rfl rfl hO1 ?_; intro W hW hFW))

    exact bodyPost_ret (vret Tryz.results46 _ _ _ rfl hW) rfl ⟨rfl, (HF0.out.trans hF1).new hFW (by omega)⟩
  have a2b : (c == 1) = false := by simpa using a2
  go_enter Tryz.func46, Tryz.ntmps46
  go_wp2_with (first
    | (go_at_call 54; refine (HC _).mono ?_; rintro e w1 ⟨rfl, hF1⟩; have gA := (HB.out _ hF1).1; have hO1 := (HB.out _ hF1).2; have g0 := gA.d0; have g1 := gA.d1; have g2 := gA.d2; obtain ⟨c0, c1, c2, c3, c4⟩ := HG.out _ (HF0.out.trans hF1))
    | (refine wpList_store_val rfl (.tmp 6) (.tmp 46) rfl (w.heap.size + 1) v.k v.n v.s v.y v.e rfl rfl hO1 ?_; intro W hW hFW))

  exact bodyPost_ret (vret Tryz.results46 _ _ _ rfl hW) rfl ⟨rfl, (HF0.out.trans hF1).new hFW (by omega)⟩
#print axioms at_ok
end Go.Proofs.YtpjbobbmldplbaaGreatDoor
