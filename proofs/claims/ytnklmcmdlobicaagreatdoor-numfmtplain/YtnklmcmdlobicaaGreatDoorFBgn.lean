/- begun: the law's first call; the names of months and days. -/
import Derived.Test.YtnklmcmdlobicaaGreatDoorFSho
namespace Go.Proofs.YtnklmcmdlobicaaGreatDoor
open Go.RowKit Ieee Go.Shelf
attribute [local go_sem] run_store_float

def monL : List ByteArray := [⟨#[74, 97, 110, 117, 97, 114, 121]⟩, ⟨#[70, 101, 98, 114, 117, 97, 114, 121]⟩, ⟨#[77, 97, 114, 99, 104]⟩, ⟨#[65, 112, 114, 105, 108]⟩, ⟨#[77, 97, 121]⟩, ⟨#[74, 117, 110, 101]⟩, ⟨#[74, 117, 108, 121]⟩, ⟨#[65, 117, 103, 117, 115, 116]⟩, ⟨#[83, 101, 112, 116, 101, 109, 98, 101, 114]⟩, ⟨#[79, 99, 116, 111, 98, 101, 114]⟩, ⟨#[78, 111, 118, 101, 109, 98, 101, 114]⟩, ⟨#[68, 101, 99, 101, 109, 98, 101, 114]⟩]
def wkL : List ByteArray := [⟨#[83, 117, 110, 100, 97, 121]⟩, ⟨#[77, 111, 110, 100, 97, 121]⟩, ⟨#[84, 117, 101, 115, 100, 97, 121]⟩, ⟨#[87, 101, 100, 110, 101, 115, 100, 97, 121]⟩, ⟨#[84, 104, 117, 114, 115, 100, 97, 121]⟩, ⟨#[70, 114, 105, 100, 97, 121]⟩, ⟨#[83, 97, 116, 117, 114, 100, 97, 121]⟩]
theorem mon_three : ∀ k, k < 12 → 3 ≤ (monL.getD k ⟨#[]⟩).size := by decide
theorem wk_three : ∀ k, k < 7 → 3 ≤ (wkL.getD k ⟨#[]⟩).size := by decide
/-- The name of number n, whole or its first letters. -/
def nmF (L : List ByteArray) (n : Int) (long : Bool) : ByteArray := if 1 ≤ n ∧ n ≤ L.length then (if long = true then L.getD (n - 1).toNat ⟨#[]⟩ else (L.getD (n - 1).toNat ⟨#[]⟩).extract 0 3) else ⟨#[]⟩
set_option maxRecDepth 100000 in
theorem named_any (s : ByteArray) (long : Bool) (hs : 3 ≤ s.size) (w : World) : Calls Tryz.prog 205 #[.string s, .bool long] w fun e w' => e = .returned (.string (if long = true then s else s.extract 0 3)) ∧ w' = w := by
  cases long with
  | true =>
    go_enter Tryz.func205, Tryz.ntmps205
    go_wp2_with fail
    go_ret
    exact ⟨rfl, rfl⟩
  | false =>
    go_enter Tryz.func205, Tryz.ntmps205
    go_wp2_with fail
    go_ret
    exact ⟨rfl, rfl⟩
/-- The tables lie where they should. -/
structure STab (w : World) : Prop where
  m1 : 8 < w.heap.size
  m : ∀ k, k < 12 → w.cell? ⟨8, k, none⟩ = some (.string (monL.getD k ⟨#[]⟩))
  d1 : 9 < w.heap.size
  d : ∀ k, k < 7 → w.cell? ⟨9, k, none⟩ = some (.string (wkL.getD k ⟨#[]⟩))
theorem STab.fr {w w' : World} (h : STab w) (hF : Fr noB w w') : STab w' :=
  ⟨Nat.lt_of_lt_of_le h.m1 hF.size, fun k hk => (hF.cell (a := ⟨8, k, none⟩) h.m1 id).trans (h.m k hk), Nat.lt_of_lt_of_le h.d1 hF.size, fun k hk => (hF.cell (a := ⟨9, k, none⟩) h.d1 id).trans (h.d k hk)⟩
set_option maxRecDepth 100000 in
theorem month_any (n : Int) (long : Bool) (w : World) (hT : STab w) : Calls Tryz.prog 158 #[.int .i64 n, .bool long] w fun e w' => e = .returned (.string (nmF monL n long)) ∧ w' = w := by
  by_cases h1 : n < 1
  · have hR : nmF monL n long = ⟨#[]⟩ := by unfold nmF; rw [if_neg (by omega)]
    rw [hR]
    clear hT
    go_enter Tryz.func158, Tryz.ntmps158
    go_wp2_with fail
    go_ret
    exact ⟨rfl, rfl⟩
  · by_cases h2 : 12 < n
    · have hR : nmF monL n long = ⟨#[]⟩ := by unfold nmF; rw [if_neg (by rw [show monL.length = 12 from rfl]; omega)]
      rw [hR]
      have h1' : decide (n < 1) = false := decide_eq_false h1
      clear hT
      go_enter Tryz.func158, Tryz.ntmps158
      go_wp2_with fail
      go_ret
      exact ⟨rfl, rfl⟩
    · obtain ⟨k, rfl⟩ : ∃ k : Nat, n = (k : Int) + 1 := ⟨(n - 1).toNat, by omega⟩
      have hk : k < 12 := by omega
      have hc := hT.m k hk
      have h3 := mon_three k hk
      have hR : nmF monL ((k : Int) + 1) long = (if long = true then monL.getD k ⟨#[]⟩ else (monL.getD k ⟨#[]⟩).extract 0 3) := by
        unfold nmF
        rw [if_pos (by rw [show monL.length = 12 from rfl]; omega), show ((k : Int) + 1 - 1).toNat = k by omega]
      rw [hR]
      generalize monL.getD k ⟨#[]⟩ = s at *
      have HN := named_any s long h3
      have h1' : decide ((k : Int) + 1 < 1) = false := decide_eq_false (by omega)
      have h2' : decide (12 < (k : Int) + 1) = false := decide_eq_false (by omega)
      have e1 : (k : Int) + 1 - 1 = (k : Int) := by omega
      clear hT hR
      generalize (if long = true then s else s.extract 0 3) = R at *
      go_enter Tryz.func158, Tryz.ntmps158
      go_wp2_with (go_at_call 205; refine (HN _).mono ?_; rintro e w1 ⟨rfl, h1⟩; subst h1)
      go_ret
      exact ⟨rfl, rfl⟩
set_option maxRecDepth 100000 in
theorem weekday_any (n : Int) (long : Bool) (w : World) (hT : STab w) : Calls Tryz.prog 161 #[.int .i64 n, .bool long] w fun e w' => e = .returned (.string (nmF wkL n long)) ∧ w' = w := by
  by_cases h1 : n < 1
  · have hR : nmF wkL n long = ⟨#[]⟩ := by unfold nmF; rw [if_neg (by omega)]
    rw [hR]
    clear hT
    go_enter Tryz.func161, Tryz.ntmps161
    go_wp2_with fail
    go_ret
    exact ⟨rfl, rfl⟩
  · by_cases h2 : 7 < n
    · have hR : nmF wkL n long = ⟨#[]⟩ := by unfold nmF; rw [if_neg (by rw [show wkL.length = 7 from rfl]; omega)]
      rw [hR]
      have h1' : decide (n < 1) = false := decide_eq_false h1
      clear hT
      go_enter Tryz.func161, Tryz.ntmps161
      go_wp2_with fail
      go_ret
      exact ⟨rfl, rfl⟩
    · obtain ⟨k, rfl⟩ : ∃ k : Nat, n = (k : Int) + 1 := ⟨(n - 1).toNat, by omega⟩
      have hk : k < 7 := by omega
      have hc := hT.d k hk
      have h3 := wk_three k hk
      have hR : nmF wkL ((k : Int) + 1) long = (if long = true then wkL.getD k ⟨#[]⟩ else (wkL.getD k ⟨#[]⟩).extract 0 3) := by
        unfold nmF
        rw [if_pos (by rw [show wkL.length = 7 from rfl]; omega), show ((k : Int) + 1 - 1).toNat = k by omega]
      rw [hR]
      generalize wkL.getD k ⟨#[]⟩ = s at *
      have HN := named_any s long h3
      have h1' : decide ((k : Int) + 1 < 1) = false := decide_eq_false (by omega)
      have h2' : decide (7 < (k : Int) + 1) = false := decide_eq_false (by omega)
      have e1 : (k : Int) + 1 - 1 = (k : Int) := by omega
      clear hT hR
      generalize (if long = true then s else s.extract 0 3) = R at *
      go_enter Tryz.func161, Tryz.ntmps161
      go_wp2_with (go_at_call 205; refine (HN _).mono ?_; rintro e w1 ⟨rfl, h1⟩; subst h1)
      go_ret
      exact ⟨rfl, rfl⟩
theorem Ls1.lt {w : World} {b pb : Nat} (h : Ls1 w b pb) : b < w.heap.size := lt_of_block h
theorem Ls1.new (w : World) (pb : Nat) : Ls1 (w.alloc (.cells #[.int .i64 1, .slice (some ⟨pb, 0, none⟩) 1 1, .slice none 0 0, .bool false] 62 (0, 0))) w.heap.size pb := heap_alloc_new w _
set_option maxRecDepth 100000 in
set_option maxHeartbeats 4000000 in
theorem begun_of (M : Nat) (w : World) (hX : XTab w) (hO : OTab w) (hT : CTab w M)
    (HSH : ∀ (lb pb : Nat) (W : World), Fr noB w W → Ls1 W lb pb → Pc1 W pb → Calls Tryz.prog 32 #[.slice (some ⟨lb, 0, none⟩) 1 1, .int .i64 0, (.agg #[.int .i64 1, .float .f64 4619567317775286272, .string ⟨#[]⟩, .bool false, .int .i64 0])] W fun e w' => e = .returned (.string ⟨#[55]⟩) ∧ Fr noB W w') :
    Calls Tryz.prog 10 #[] w fun e w' => e = .returned (.bool true) ∧ Fr noB w w' := by
  have HN := number_fin 4653144203864309760 1 2 M true w (by omega) (by decide +kernel) (by omega) (by omega) hX hO hT
  rw [num1234, show baL [49, 44, 50, 51, 52, 46, 53, 48] = ⟨#[49, 44, 50, 51, 52, 46, 53, 48]⟩ from rfl] at HN
  clear hX hO hT
  go_enter Tryz.func10, Tryz.ntmps10
  go_wp2_with (go_at_call 6; refine HN.mono ?_; rintro e w1 ⟨rfl, hF1⟩)
  obtain ⟨W, hW⟩ : ∃ W, (w1.alloc (.cells #[.int .i64 2, .string ⟨#[]⟩, .int .i64 1, .int .i64 0, .int .i64 0, .bool false, .bool false] 58 (0, 0))).alloc (.cells #[.int .i64 1, .slice (some ⟨w1.heap.size, 0, none⟩) 1 1, .slice none 0 0, .bool false] 62 (0, 0)) = W := ⟨_, rfl⟩
  have hfb : Ls1 W (w1.heap.size + 1) w1.heap.size := by
    show W.heap[w1.heap.size + 1]? = _
    rw [← hW]
    exact alloc2_obj w1 _ _
  have hpb : Pc1 W w1.heap.size := by
    show W.heap[w1.heap.size]? = _
    rw [← hW]
    exact ((Fr.refl noB (w1.alloc (.cells #[.int .i64 2, .string ⟨#[]⟩, .int .i64 1, .int .i64 0, .int .i64 0, .bool false, .bool false] 58 (0, 0)))).alloc _).obj (heap_alloc_new w1 _) id
  have hFW : Fr noB w W := by rw [← hW]; exact (hF1.alloc _).alloc _
  rw [hW]
  obtain ⟨pb, hpbe⟩ : ∃ pb, w1.heap.size = pb := ⟨_, rfl⟩
  rw [hpbe] at hfb hpb ⊢
  have hfbl : pb + 1 < W.heap.size := lt_of_block hfb
  obtain ⟨f0, f1, f2, f3⟩ := hfb.cells
  have hWd : Fr noB W W.drew := (Fr.refl noB W).drew
  have hWa : Fr noB W (W.alloc (.cells #[.int .i64 1, .slice (some ⟨pb, 0, none⟩) 1 1, .slice none 0 0, .bool false] 62 (0, 0))).drew := ((Fr.refl noB W).alloc _).drew
  have hLa : Ls1 (W.alloc (.cells #[.int .i64 1, .slice (some ⟨pb, 0, none⟩) 1 1, .slice none 0 0, .bool false] 62 (0, 0))).drew W.heap.size pb := heap_alloc_new W _
  clear hW hF1 hpbe HN
  go_cut [0] (fun bv wc => bv = .bool true ∧ Fr noB w wc)
  case first =>
    go_region_with (first
      | (go_at_call 33; with_reducible refine (rnum_any 4619567317775286272 W.drew).mono ?_; rintro e w2 ⟨rfl, hF2⟩; have hX2 := hWd.trans hF2; obtain ⟨g0, g1, g2, g3⟩ := (hfb.fr hX2).cells; have hfbl2 : pb + 1 < w2.heap.size := (hfb.fr hX2).lt; have hXA : Fr noB W (w2.alloc (.cells #[.int .i64 1, .slice (some ⟨pb, 0, none⟩) 1 1, .slice none 0 0, .bool false] 62 (0, 0))) := hX2.alloc _; have hLA := Ls1.new w2 pb)
      | (go_at_call 33; with_reducible refine (rnum_any 4619567317775286272 (W.alloc (.cells #[.int .i64 1, .slice (some ⟨pb, 0, none⟩) 1 1, .slice none 0 0, .bool false] 62 (0, 0))).drew).mono ?_; rintro e w2 ⟨rfl, hF2⟩; have hXB := hWa.trans hF2; have hLB := hLa.fr hF2)
      | (go_at_call 32; with_reducible refine (HSH w2.heap.size pb (w2.alloc (.cells #[.int .i64 1, .slice (some ⟨pb, 0, none⟩) 1 1, .slice none 0 0, .bool false] 62 (0, 0))) (hFW.trans hXA) hLA (hpb.fr hXA)).mono ?_; rintro e w3 ⟨rfl, hF3⟩; have hX3 := hXA.trans hF3; obtain ⟨k0, k1, k2, k3⟩ := (hfb.fr hX3).cells)
      | (go_at_call 32; with_reducible refine (HSH W.heap.size pb w2 (hFW.trans hXB) hLB (hpb.fr hXB)).mono ?_; rintro e w3 ⟨rfl, hF3⟩; have hX3 := hXB.trans hF3; obtain ⟨k0, k1, k2, k3⟩ := (hfb.fr hX3).cells)
      | (go_at_call 34; with_reducible refine (check1 pb w3 (hpb.fr hX3)).mono ?_; rintro e w4 ⟨rfl, hF4⟩))
    all_goals (go_wp2_with fail; go_meet; exact ⟨rfl, (hFW.trans hX3).trans hF4⟩)
  case rest =>
    obtain ⟨rfl, hFc⟩ := hcut
    go_wp2_with fail
    go_ret
    exact ⟨rfl, hFc⟩
theorem begun_true (M : Nat) (w : World) (hX : XTab w) (hO : OTab w) (hT : CTab w M) : Calls Tryz.prog 10 #[] w fun e w' => e = .returned (.bool true) ∧ Fr noB w w' :=
  begun_of M w hX hO hT (fun lb pb W hW hL hP => show7 M lb pb W hL hP (hX.fr hW) (hO.fr hW) (hT.low hW (fun _ _ h => h.elim)))
/-- All that the statements of numfmt read of variables, so far. -/
structure FTabs (w : World) (M : Nat) : Prop where
  x : XTab w
  o : OTab w
  c : CTab w M
  s : STab w
theorem FTabs.fr {w w' : World} {M : Nat} (h : FTabs w M) (hF : Fr noB w w') : FTabs w' M := ⟨h.x.fr hF, h.o.fr hF, h.c.low hF (fun _ _ h => h.elim), h.s.fr hF⟩
end Go.Proofs.YtnklmcmdlobicaaGreatDoor
