/- The writer's methods, where there is room. -/
import Derived.Test.YtdmjbhbiehjelaaGreatDoorPPt
import Derived.Test.YtdmjbhbiehjelaaGreatDoorK47
import Derived.Handy
import Derived.Defers
import Derived.Recover
namespace Go.Proofs.YtdmjbhbiehjelaaGreatDoor
open Go.RowKit Go.Shelf

theorem wput_ok (W0 : World) (b m : Nat) (l : List UInt8) (s : ByteArray) (W : World) (h0 : Fr noB W0 W) (h : Wt W0.heap.size b (m : Int) l W) (hm : m ≤ 8192) (hs : l.length + s.data.toList.length ≤ m) :
    Calls Tryz.prog 26 #[.pointer (some ⟨b, 0, none⟩), .string s] W fun e w' => e = .returned (.tuple #[]) ∧ Wt W0.heap.size b (m : Int) (l ++ s.data.toList) w' ∧ Fr noB W0 w' := by
  have e : s.data.toList.length = s.size := by rw [Array.length_toList]; rfl
  refine (put_ok W0.heap.size b m l s W h hm (by omega)).mono ?_
  rintro e w1 ⟨rfl, hW, hB⟩
  exact ⟨rfl, hW, h0.grows hB⟩
set_option maxRecDepth 100000 in
theorem wtoken_ok (W0 : World) (b m : Nat) (l : List UInt8) (s : ByteArray) (W : World) (h0 : Fr noB W0 W) (h : Wt W0.heap.size b (m : Int) l W) (hm : m ≤ 8192) (hs : l.length + s.data.toList.length ≤ m) :
    Calls Tryz.prog 40 #[.pointer (some ⟨b, 0, none⟩), .string s, .int .i64 0] W fun e w' => e = .returned (.tuple #[]) ∧ Wt W0.heap.size b (m : Int) (l ++ s.data.toList) w' ∧ Fr noB W0 w' := by
  have H1 := phold_ok 140 W
  have H2 := wput_ok W0 b m l s W h0 h hm hs
  clear h h0 hs
  go_enter Tryz.func40, Tryz.ntmps40
  go_wp2_with (first
    | (go_at_call 24; refine H1.mono ?_; rintro e w1 ⟨rfl, rfl⟩)
    | (go_at_call 26; refine H2.mono ?_; rintro e w2 ⟨rfl, hW2, hF2⟩))
  go_end0
  exact ⟨rfl, hW2, hF2⟩
/-- The term is written, where there is room. -/
def WrOk (t : Tm) : Prop := ∀ (W0 : World) (b m : Nat) (l : List UInt8) (W : World) (bt ot : Nat), TAt W0 bt ot t → PT W0 → Fr noB W0 W → Wt W0.heap.size b (m : Int) l W → m ≤ 8192 → l.length + (textF t).length ≤ m →
  Calls Tryz.prog 27 #[.pointer (some ⟨b, 0, none⟩), .pointer (some ⟨bt, ot, none⟩)] W fun e w' => e = .returned (.tuple #[]) ∧ Wt W0.heap.size b (m : Int) (l ++ textF t) w' ∧ Fr noB W0 w'
theorem text_num (t : Tm) (h : t.f.op = 1) : textF t = ttL t.f.x := by
  cases t with
  | mk f sl cap args =>
    have h : f.op = 1 := h
    rw [textF, if_pos h]
    rfl
set_option maxRecDepth 100000 in
set_option maxHeartbeats 1000000 in
theorem wr_num (t : Tm) (h : t.f.op = 1) (hf : finB t.f.x = true) : WrOk t := by
  intro W0 b m l W bt ot hA hT h0 hW hm hl
  rw [text_num t h] at hl ⊢
  have hA2 := hA.fr h0
  have c0 := hA2.c0
  have c1 : W.cell? ⟨bt, ot + 1, none⟩ = some (.float .f64 t.f.x) := hA2.row.2 1 _ rfl
  rw [h] at c0
  have HX := ptext_any t.f.x W hA.lies.ok.x (hT.fr h0).n
  have hz : dgN t.f.x = 0 := by
    unfold dgN
    rw [if_neg (by rw [hf]; simp)]
  rw [hz] at HX
  have HTk : Hid (∀ V, Fr noB W V → Calls Tryz.prog 40 #[.pointer (some ⟨b, 0, none⟩), .string (baL (ttL t.f.x)), .int .i64 0] V fun e w' => e = .returned (.tuple #[]) ∧ Wt W0.heap.size b (m : Int) (l ++ ttL t.f.x) w' ∧ Fr noB W0 w') := fun V hV => by
    have h := wtoken_ok W0 b m l (baL (ttL t.f.x)) V (h0.trans hV) (hW.keep hV) hm (by rw [baL_list]; exact hl)
    rw [baL_list] at h
    exact h
  clear hA hA2 hT hW hl hf hz h0
  generalize t.f.x = x at *
  generalize ttL x = TT at *
  go_enter Tryz.func27, Tryz.ntmps27
  go_wp2_with (first
    | (go_at_call 41; refine HX.mono ?_; rintro e w1 ⟨rfl, hF1⟩)
    | (go_at_call 40; refine (HTk.out _ hF1).mono ?_; rintro e w2 ⟨rfl, hW2, hF2⟩))
  go_end0
  exact ⟨rfl, hW2, hF2⟩
set_option maxRecDepth 100000 in
set_option maxHeartbeats 1000000 in
theorem operand_ok (t : Tm) (n : Nat) (hW : WrOk t) (W0 : World) (b m : Nat) (l : List UInt8) (W : World) (bt ot : Nat) (hA : TAt W0 bt ot t) (hT : PT W0) (h0 : Fr noB W0 W) (hB : Wt W0.heap.size b (m : Int) l W) (hm : m ≤ 8192) (hl : l.length + (brc (lnF t.f.op < n) (textF t)).length ≤ m) :
    Calls Tryz.prog 79 #[.pointer (some ⟨b, 0, none⟩), .pointer (some ⟨bt, ot, none⟩), .int .i64 (n : Int)] W fun e w' => e = .returned (.tuple #[]) ∧ Wt W0.heap.size b (m : Int) (l ++ brc (lnF t.f.op < n) (textF t)) w' ∧ Fr noB W0 w' := by
  have c0 := (hA.fr h0).c0
  have HLv := plevel_any t.f.op W (hT.fr h0).p
  have HWT : Hid (∀ V k, Fr noB W0 V → Wt W0.heap.size b (m : Int) k V → k.length + (textF t).length ≤ m → Calls Tryz.prog 27 #[.pointer (some ⟨b, 0, none⟩), .pointer (some ⟨bt, ot, none⟩)] V fun e w' => e = .returned (.tuple #[]) ∧ Wt W0.heap.size b (m : Int) (k ++ textF t) w' ∧ Fr noB W0 w') := fun V k h1 h2 h3 => hW W0 b m k V bt ot hA hT h1 h2 hm h3
  have HB : Hid (Wt W0.heap.size b (m : Int) l W) := hB
  have H0 : Hid (Fr noB W0 W) := h0
  have HPu : Hid (∀ (s : ByteArray) (k : List UInt8) V, Fr noB W0 V → Wt W0.heap.size b (m : Int) k V → k.length + s.data.toList.length ≤ m → Calls Tryz.prog 26 #[.pointer (some ⟨b, 0, none⟩), .string s] V fun e w' => e = .returned (.tuple #[]) ∧ Wt W0.heap.size b (m : Int) (k ++ s.data.toList) w' ∧ Fr noB W0 w') := fun s k V h1 h2 h3 => wput_ok W0 b m k s V h1 h2 hm h3
  clear hA hW hB hT h0
  generalize t.f.op = op at *
  generalize textF t = TT at *
  generalize lnF op = LN at *
  by_cases hlt : LN < n
  · have hli : ¬ (n : Int) ≤ (LN : Int) := by omega
    rw [show brc (LN < n) TT = 40 :: (TT ++ [41]) by unfold brc; rw [if_pos hlt]] at hl ⊢
    simp only [List.length_cons, List.length_append, List.length_nil] at hl
    have HLn : Hid (l.length + TT.length + 2 ≤ m) := by
      show _ ≤ _
      omega
    have HEq : Hid (((l ++ [40]) ++ TT) ++ [41] = l ++ 40 :: (TT ++ [41])) := by
      show _ = _
      simp
    clear hl
    go_enter Tryz.func79, Tryz.ntmps79
    go_wp2_with (first
      | (go_at_call 13; refine HLv.mono ?_; rintro e w1 ⟨rfl, hF1⟩)
      | (go_at_call_of 26 (Value.string ⟨#[40]⟩); refine (HPu.out ⟨#[40]⟩ l _ (H0.out.trans hF1) (HB.out.keep hF1) (by have := HLn.out; simp; omega)).mono ?_; rintro e w2 ⟨rfl, hW2, hF2⟩)
      | (go_at_call 27; refine (HWT.out _ _ hF2 hW2 (by have := HLn.out; simp; omega)).mono ?_; rintro e w3 ⟨rfl, hW3, hF3⟩)
      | (go_at_call_of 26 (Value.string ⟨#[41]⟩); refine (HPu.out ⟨#[41]⟩ _ _ hF3 hW3 (by have := HLn.out; simp; omega)).mono ?_; rintro e w4 ⟨rfl, hW4, hF4⟩))
    go_end0
    rw [← HEq.out]
    exact ⟨rfl, hW4, hF4⟩
  · have hli : (n : Int) ≤ (LN : Int) := by omega
    rw [show brc (LN < n) TT = TT by unfold brc; rw [if_neg hlt]] at hl ⊢
    have HLn : Hid (l.length + TT.length ≤ m) := hl
    clear hl
    go_enter Tryz.func79, Tryz.ntmps79
    go_wp2_with (first
      | (go_at_call 13; refine HLv.mono ?_; rintro e w1 ⟨rfl, hF1⟩)
      | (go_at_call 27; refine (HWT.out _ _ (H0.out.trans hF1) (HB.out.keep hF1) HLn.out).mono ?_; rintro e w3 ⟨rfl, hW3, hF3⟩))
    go_returns
    exact ⟨rfl, hW3, hF3⟩
#print axioms wr_num
#print axioms operand_ok
end Go.Proofs.YtdmjbhbiehjelaaGreatDoor
/- The writer's operator with two operands. -/
namespace Go.Proofs.YtdmjbhbiehjelaaGreatDoor
open Go.RowKit Go.Shelf

theorem pfr_to {Q : Exit → Act → World → Prop} {a : Act} {w : World} (b : Act) (h : a = b) (hq : Q .normal b w) : Q .normal a w := by
  rw [h]
  exact hq
theorem text_two2 (t a c : Tm) (h : 12 ≤ t.f.op) (ha : t.args = [a, c]) : textF t = brc (lnF a.f.op < lnF t.f.op) (textF a) ++ ((sgF t.f.op).data.toList ++ brc (lnF c.f.op < lnF t.f.op + 1) (textF c)) := by
  cases t with
  | mk f sl cap args =>
    have h : 12 ≤ f.op := h
    have ha : args = [a, c] := ha
    rw [textF, if_neg (by omega), if_neg (by omega), if_neg (by omega), if_neg (by omega), if_neg (by omega), if_neg (by omega), if_neg (by omega), if_neg (by omega), ha, operT, if_neg (by omega), if_neg (by omega), secT]
    rfl
set_option maxRecDepth 100000 in
set_option maxHeartbeats 4000000 in
theorem oper2_ok (t a c : Tm) (h12 : 12 ≤ t.f.op) (hac : t.args = [a, c]) (Wa : WrOk a) (Wc : WrOk c) (W0 : World) (b m : Nat) (l : List UInt8) (W : World) (bt ot : Nat) (hA : TAt W0 bt ot t) (hT : PT W0) (h0 : Fr noB W0 W) (hB : Wt W0.heap.size b (m : Int) l W) (hm : m ≤ 8192) (hl : l.length + (textF t).length ≤ m) :
    Calls Tryz.prog 47 #[.pointer (some ⟨b, 0, none⟩), .pointer (some ⟨bt, ot, none⟩)] W fun e w' => e = .returned (.tuple #[]) ∧ Wt W0.heap.size b (m : Int) (l ++ textF t) w' ∧ Fr noB W0 w' := by
  have hA2 := hA.fr h0
  have c0 := hA2.c0
  have c18 := hA2.c18
  obtain ⟨g, q, hs, hall⟩ := hA.list (by rw [hac]; simp)
  have hAa : TAt W0 g q a := by simpa using hall 0 a (by rw [hac]; rfl)
  have hAc : TAt W0 g (q + 19) c := hall 1 c (by rw [hac]; rfl)
  have hcap := hA.lies.cap
  rw [hac] at hcap
  rw [hs, hac] at c18
  have HSg : Hid (∀ V, Fr noB W V → Calls Tryz.prog 11 #[.int .i64 t.f.op] V fun e w' => e = .returned (.string (sgF t.f.op)) ∧ Fr noB V w') := fun V hV => psign_any t.f.op V ((hT.fr h0).fr hV).p
  have HLv : Hid (∀ V, Fr noB W V → Calls Tryz.prog 13 #[.int .i64 t.f.op] V fun e w' => e = .returned (.int .i64 (lnF t.f.op : Int)) ∧ Fr noB V w') := fun V hV => plevel_any t.f.op V ((hT.fr h0).fr hV).p
  have HC0 : Hid (∀ V, Fr noB W V → V.cell? ⟨bt, ot, none⟩ = some (.int .i64 t.f.op)) := fun V hV => (hV.cell (a := ⟨bt, ot, none⟩) (World.block_lt_of_cell? _ _ c0) id).trans c0
  have HC18 : Hid (∀ V, Fr noB W0 V → V.cell? ⟨bt, ot + 18, none⟩ = some (.slice (some ⟨g, q, none⟩) 2 t.cap)) := fun V hV => by
    have e := (hA.fr hV).c18
    rw [hs, hac] at e
    exact e
  have HC00 : Hid (∀ V, Fr noB W0 V → V.cell? ⟨bt, ot, none⟩ = some (.int .i64 t.f.op)) := fun V hV => (hA.fr hV).c0
  rw [text_two2 t a c h12 hac] at hl ⊢
  have HP1 : Hid (∀ V k, Fr noB W0 V → Wt W0.heap.size b (m : Int) k V → k.length + (brc (lnF a.f.op < lnF t.f.op) (textF a)).length ≤ m → Calls Tryz.prog 79 #[.pointer (some ⟨b, 0, none⟩), .pointer (some ⟨g, q, none⟩), .int .i64 (lnF t.f.op : Int)] V fun e w' => e = .returned (.tuple #[]) ∧ Wt W0.heap.size b (m : Int) (k ++ brc (lnF a.f.op < lnF t.f.op) (textF a)) w' ∧ Fr noB W0 w') := fun V k h1 h2 h3 => operand_ok a (lnF t.f.op) Wa W0 b m k V g q hAa hT h1 h2 hm h3
  have HP2 : Hid (∀ V k, Fr noB W0 V → Wt W0.heap.size b (m : Int) k V → k.length + (brc (lnF c.f.op < lnF t.f.op + 1) (textF c)).length ≤ m → Calls Tryz.prog 79 #[.pointer (some ⟨b, 0, none⟩), .pointer (some ⟨g, q + 19, none⟩), .int .i64 ((lnF t.f.op : Int) + 1)] V fun e w' => e = .returned (.tuple #[]) ∧ Wt W0.heap.size b (m : Int) (k ++ brc (lnF c.f.op < lnF t.f.op + 1) (textF c)) w' ∧ Fr noB W0 w') := fun V k h1 h2 h3 => by
    have h := operand_ok c (lnF t.f.op + 1) Wc W0 b m k V g (q + 19) hAc hT h1 h2 hm h3
    rw [show ((lnF t.f.op + 1 : Nat) : Int) = (lnF t.f.op : Int) + 1 by omega] at h
    exact h
  have HPu : Hid (∀ (s : ByteArray) (k : List UInt8) V, Fr noB W0 V → Wt W0.heap.size b (m : Int) k V → k.length + s.data.toList.length ≤ m → Calls Tryz.prog 26 #[.pointer (some ⟨b, 0, none⟩), .string s] V fun e w' => e = .returned (.tuple #[]) ∧ Wt W0.heap.size b (m : Int) (k ++ s.data.toList) w' ∧ Fr noB W0 w') := fun s k V h1 h2 h3 => wput_ok W0 b m k s V h1 h2 hm h3
  have HB : Hid (Wt W0.heap.size b (m : Int) l W) := hB
  have H0 : Hid (Fr noB W0 W) := h0
  have hln : lnF t.f.op ≤ 10 := by
    unfold lnF
    (repeat' split) <;> omega
  have hcp : 2 ≤ t.cap := hcap.1
  have hcq : t.cap ≤ 7407762545966 := hcap.2
  generalize brc (lnF a.f.op < lnF t.f.op) (textF a) = T1 at *
  generalize brc (lnF c.f.op < lnF t.f.op + 1) (textF c) = T2 at *
  clear hA hA2 hs hall hAa hAc hcap hT h0 hB Wa Wc hac c18
  generalize t.f.op = op at *
  generalize t.cap = cc at *
  generalize hsg : sgF op = SG at *
  generalize lnF op = LN at *
  clear hsg
  simp only [List.length_append] at hl
  have HL : Hid (l.length + (T1.length + (SG.data.toList.length + T2.length)) ≤ m) := hl
  have HEq : Hid (((l ++ T1) ++ SG.data.toList) ++ T2 = l ++ (T1 ++ (SG.data.toList ++ T2))) := by
    show _ = _
    simp
  have o9 : ¬ op = 9 := by omega
  have o10 : ¬ op = 10 := by omega
  have o11 : ¬ op = 11 := by omega
  clear hl h12
  go_enter Tryz.func47, Tryz.ntmps47
  go_wp2_with fail
  refine wp_region_held_drew (S := fun V => V.cell? ⟨bt, ot, none⟩ = some (.int .i64 op)) (by kernel_rfl) c0 (fun hHeld => ?_)
  refine wpAnyH_take (i := 0) (v := .pointer (some ⟨bt, ot, none⟩)) rfl (by kernel_rfl) (by kernel_rfl) (by kernel_rfl) (fun _ _ _ h => h) (Or.inl ⟨by kernel_rfl, fun w hSw => by kernel_rfl⟩) hHeld ?_
  refine wpAnyH_take (i := 1) (v := .pointer (some ⟨bt, ot, none⟩)) rfl (by kernel_rfl) (by kernel_rfl) (by kernel_rfl) (fun _ _ _ h => h) (Or.inl ⟨by kernel_rfl, fun w hSw => by kernel_rfl⟩) hHeld ?_
  refine wpAnyH_take (i := 2) (v := .pointer (some ⟨bt, ot, none⟩)) rfl (by kernel_rfl) (by kernel_rfl) (by kernel_rfl) (fun _ _ _ h => h) (Or.inl ⟨by kernel_rfl, fun w hSw => by kernel_rfl⟩) hHeld ?_
  refine wpAnyH_take (i := 3) (v := .int .i64 op) rfl (by kernel_rfl) (by kernel_rfl) (by kernel_rfl) (fun _ _ _ h => h) (py_loadOf 3 pload_int (.tmp 8) bt ot _ (by kernel_rfl) rfl (by kernel_rfl) (fun w h => h)) hHeld ?_
  refine wpAnyH_take (i := 5) (v := .pointer (some ⟨bt, ot, none⟩)) rfl (by kernel_rfl) (by kernel_rfl) (by kernel_rfl) (fun _ _ _ h => h) (Or.inl ⟨by kernel_rfl, fun w hSw => by kernel_rfl⟩) hHeld ?_
  refine wpAnyH_take (i := 6) (v := .pointer (some ⟨bt, ot, none⟩)) rfl (by kernel_rfl) (by kernel_rfl) (by kernel_rfl) (fun _ _ _ h => h) (Or.inl ⟨by kernel_rfl, fun w hSw => by kernel_rfl⟩) hHeld ?_
  refine wpAnyH_take (i := 7) (v := .pointer (some ⟨bt, ot, none⟩)) rfl (by kernel_rfl) (by kernel_rfl) (by kernel_rfl) (fun _ _ _ h => h) (Or.inl ⟨by kernel_rfl, fun w hSw => by kernel_rfl⟩) hHeld ?_
  refine wpAnyH_take (i := 8) (v := .int .i64 op) rfl (by kernel_rfl) (by kernel_rfl) (by kernel_rfl) (fun _ _ _ h => h) (py_loadOf 3 pload_int (.tmp 13) bt ot _ (by kernel_rfl) rfl (by kernel_rfl) (fun w h => h)) hHeld ?_
  refine wpAnyH_ready (rs := [4]) (by kernel_rfl) (by simp) ?_
  refine AllReadyH.cons rfl (fun K hK => ?_) AllReadyH.nil
  refine pwp_go 11 #[.int .i64 op] (by kernel_rfl) ?_
  refine (HSg.out _ (Fr.refl noB W).drew).mono ?_
  rintro e w1 ⟨rfl, hF1⟩
  have HF1 : Hid (Fr noB W w1) := (Fr.refl noB W).drew.trans hF1
  refine hK.out _ _ (HC0.out _ HF1.out) (fun hHeld2 => ?_)
  clear hK K
  refine wpAnyH_ready (rs := [9]) (by kernel_rfl) (by simp) ?_
  refine AllReadyH.cons rfl (fun K hK => ?_) AllReadyH.nil
  refine pwp_go 13 #[.int .i64 op] (by kernel_rfl) ?_
  refine (HLv.out _ HF1.out).mono ?_
  rintro e w2 ⟨rfl, hF2⟩
  have HF2 : Hid (Fr noB W w2) := HF1.out.trans hF2
  refine hK.out _ _ (HC0.out _ HF2.out) (fun hHeld3 => ?_)
  clear hK K
  refine wpAnyH_take (i := 10) (v := .string SG) rfl (by kernel_rfl) (by kernel_rfl) (by kernel_rfl) (fun _ _ _ h => h) (Or.inl ⟨by kernel_rfl, fun w hSw => by kernel_rfl⟩) hHeld3 ?_
  refine wpAnyH_take (i := 11) (v := .int .i64 (LN : Int)) rfl (by kernel_rfl) (by kernel_rfl) (by kernel_rfl) (fun _ _ _ h => h) (Or.inl ⟨by kernel_rfl, fun w hSw => by kernel_rfl⟩) hHeld3 ?_
  refine wpAnyH_done (by kernel_rfl) ?_ _
  refine pfr_to { tmps := #[.pointer (some ⟨b, 0, none⟩), .pointer (some ⟨bt, ot, none⟩), undef, undef, .string SG, .int .i64 (LN : Int), .pointer (some ⟨bt, ot, none⟩), .pointer (some ⟨bt, ot, none⟩), .pointer (some ⟨bt, ot, none⟩), .int .i64 op, .string SG, .pointer (some ⟨bt, ot, none⟩), .pointer (some ⟨bt, ot, none⟩), .pointer (some ⟨bt, ot, none⟩), .int .i64 op, .int .i64 (LN : Int), undef, undef, undef, undef, undef, undef, undef, undef, undef, undef, undef, undef, undef, undef, undef, undef, undef, undef, undef, undef, undef, undef, undef, undef, undef, undef, undef, undef, undef, undef, undef, undef, undef, undef, undef, undef, undef, undef, undef, undef, undef, undef, undef, undef, undef, undef, undef, undef, undef, undef, undef], defers := [] } (by kernel_rfl) ?_
  have e0 := HC00.out _ (H0.out.trans HF2.out)
  have e18 := HC18.out _ (H0.out.trans HF2.out)
  go_wp2_with (first
    | (go_at_call_of 79 (Value.int IntKind.i64 (LN : Int)); refine (HP1.out _ l (H0.out.trans HF2.out) (HB.out.keep HF2.out) (by have := HL.out; omega)).mono ?_; rintro e w3 ⟨rfl, hW3, hF3⟩)
    | (go_at_call 26; refine (HPu.out SG _ _ hF3 hW3 (by have := HL.out; rw [List.length_append]; omega)).mono ?_; rintro e w4 ⟨rfl, hW4, hF4⟩; have f18 := HC18.out _ hF4)
    | (go_at_call 79; refine (HP2.out _ _ hF4 hW4 (by have := HL.out; rw [List.length_append, List.length_append]; omega)).mono ?_; rintro e w5 ⟨rfl, hW5, hF5⟩))
  go_end0
  rw [← HEq.out]
  exact ⟨rfl, hW5, hF5⟩
set_option maxRecDepth 100000 in
set_option maxHeartbeats 1000000 in
theorem wr_op2 (t a c : Tm) (h12 : 12 ≤ t.f.op) (hac : t.args = [a, c]) (Wa : WrOk a) (Wc : WrOk c) : WrOk t := by
  intro W0 b m l W bt ot hA hT h0 hW hm hl
  have c0 := (hA.fr h0).c0
  have HO := oper2_ok t a c h12 hac Wa Wc W0 b m l W bt ot hA hT h0 hW hm hl
  clear hA hT h0 hW hl Wa Wc hac
  generalize textF t = TT at *
  generalize t.f.op = op at *
  have o1 : ¬ op = 1 := by omega
  have o2 : ¬ op = 2 := by omega
  have o3 : ¬ op = 3 := by omega
  have o4 : ¬ op = 4 := by omega
  have o5 : ¬ op = 5 := by omega
  have o6 : ¬ op = 6 := by omega
  have o7 : ¬ op = 7 := by omega
  have o8 : ¬ op = 8 := by omega
  clear h12
  go_enter Tryz.func27, Tryz.ntmps27
  go_wp2_with (go_at_call 47; refine HO.mono ?_; rintro e w2 ⟨rfl, hW2, hF2⟩)
  go_end0
  exact ⟨rfl, hW2, hF2⟩
#print axioms wr_op2
end Go.Proofs.YtdmjbhbiehjelaaGreatDoor
/- Check of a term, and its text, where all is well. -/
namespace Go.Proofs.YtdmjbhbiehjelaaGreatDoor
open Go.RowKit Go.Shelf

theorem sv_of (t : Tm) : ∃ g, t.sv = .slice g t.args.length t.cap := by
  unfold Tm.sv
  cases t.sl with
  | none => exact ⟨_, rfl⟩
  | some p => exact ⟨_, rfl⟩
theorem row_new (w : World) (L : List Value) (t : TypeId) : RowAt (w.alloc (.cells L.toArray t (0, 0))) w.heap.size 0 L :=
  ⟨by simp, fun j v hv => by rw [Nat.zero_add]; exact cellOf (heap_alloc_new w _) (by simpa using hv)⟩
theorem val_eq (t : Tm) : t.val = .agg (t.f.cells t.sv).toArray := rfl
set_option maxRecDepth 100000 in
set_option maxHeartbeats 1000000 in
theorem check_t (t : Tm) (w : World) (hL : t.Lies w) (hT : PT w) (hS : StOk t) : Calls Tryz.prog 25 #[t.val] w fun e w' => e = .returned (.bool (fitsF t 1)) ∧ Fr noB w w' := by
  have hF : Fr noB w (w.alloc (.cells (t.f.cells t.sv).toArray 29 (0, 0))) := (Fr.refl noB w).alloc _
  have hA : TAt (w.alloc (.cells (t.f.cells t.sv).toArray 29 (0, 0))) w.heap.size 0 t := ⟨row_new w _ _, Tm.Lies.fr hF t hL⟩
  have h := hS w.heap.size 0 1 1 _ hA (hT.fr hF) (by omega) (by omega) (by omega)
  have e : fitsF t (1 + (if lnF t.f.op < 1 then 1 else 0)) = fitsF t 1 := by
    by_cases h0 : lnF t.f.op < 1
    · rw [fits_zero t _ (by omega), fits_zero t _ (by omega)]
    · rw [if_neg h0]
  rw [e] at h
  rw [val_eq]
  obtain ⟨g, hg⟩ := sv_of t
  rw [hg] at h hF ⊢
  have HF : Hid (Fr noB w (w.alloc (.cells (t.f.cells (.slice g t.args.length t.cap)).toArray 29 (0, 0)))) := hF
  generalize fitsF t 1 = V at *
  generalize t.args.length = n at *
  generalize t.cap = c at *
  generalize hff : t.f = f at *
  clear hA hL hT hS hF e hg hff
  obtain ⟨op, x, t', er, nm, r1, r2, r3, r4, r5, r6, r7, r8, r9, r10, r11, r12, rows⟩ := f
  simp only [TF.cells] at h HF ⊢
  obtain ⟨W0, hW0⟩ : ∃ W0, w.alloc (.cells #[.int .i64 op, .float .f64 x, .string t', .int .i64 er, .string nm, .string r1, .string r2, .bool r3, .bool r4, .int .i64 r5, .int .i64 r6, .bool r7, .bool r8, .int .i64 r9, .int .i64 r10, .bool r11, .bool r12, .int .i64 rows, .slice g n c] 29 (0, 0)) = W0 := ⟨_, rfl⟩
  have h2 : Calls Tryz.prog 37 #[.pointer (some ⟨w.heap.size, 0, none⟩), .int .i64 1, .int .i64 1] W0 fun e w' => e = .returned (.bool V) ∧ Fr noB W0 w' := by
    rw [← hW0]
    exact h
  have HF0 : Hid (Fr noB w W0) := by
    show Fr noB w W0
    rw [← hW0]
    exact HF.out
  clear h HF
  go_enter Tryz.func25, Tryz.ntmps25
  go_upto_region 1 with fail
  (first | rw [hW0] | skip)
  clear hW0
  go_wp2_with (go_at_call 37; refine h2.mono ?_; rintro e w1 ⟨rfl, hF1⟩)
  go_ret
  exact ⟨rfl, HF0.out.trans hF1⟩
theorem pcatch_idle (p q : Addr) (w : World) :
    CallsD Tryz.prog 23 #[.pointer (some p), .pointer (some q)] .returning w fun e u' w' => e = .returned (.tuple #[]) ∧ u' = .returning ∧ w' = w := by
  refine callsD_of_wpS Tryz.func23 rfl fun c₀ cs hu => ?_
  apply wpS_seq
  apply wpS_region
  simp [wpOpsS, go_sem, recoverD, hu, Tryz.ntmps23, Exit.thenS]
  have hnil : ∀ w : World, (binOp BinOp.eql 20 .nilIface .nilIface).run Tryz.prog w = .ok (.bool true) w := fun _ => by kernel_rfl
  refine wpS_of_wp ?_
  rw [show (#[.pointer (some p), .pointer (some q)] ++ (Array.replicate 11 undef).setIfInBounds 3 Value.nilIface : Array Value) = #[.pointer (some p), .pointer (some q), undef, undef, undef, .nilIface, undef, undef, undef, undef, undef, undef, undef] from rfl]
  go_wp2
  cases c₀
  simp_all [bodyPostS, results, Tryz.results23]
set_option maxRecDepth 100000 in
set_option maxHeartbeats 4000000 in
theorem written_ok (t : Tm) (ah : ByteArray) (m : Nat) (bt : Nat) (w : World) (hb : w.heap[bt]? = some (.cells (t.f.cells t.sv).toArray 29 (0, 0))) (hL : t.Lies w) (hT : PT w) (hS : StOk t) (hW : WrOk t) (hf : fitsF t 1 = true) (hm : m ≤ 8192) (hl : ah.data.toList.length + (textF t).length ≤ m) (hne : ah.data.toList ++ textF t ≠ []) :
    Calls Tryz.prog 17 #[.string ah, .pointer (some ⟨bt, 0, none⟩), .int .i64 (m : Int)] w fun e w' => e = .returned (.tuple #[.string ⟨(ah.data.toList ++ textF t).toArray⟩, .int .i64 0]) ∧ Fr noB w w' := by
  have hmf : ∀ (fn : Fn) (first cap : Array Value) (w : World), (Instr.makeFunc fn first cap).run Tryz.prog w = .ok (.func fn first cap) w := fun _ _ _ _ => rfl
  -- the results' cells
  obtain ⟨W1, hW1, hs6, hs7, hF1⟩ : ∃ W1, (w.alloc (.cells #[.string ⟨#[]⟩] 9 (0, 0))).alloc (.cells #[.int .i64 0] 30 (0, 0)) = W1 ∧ W1.heap[w.heap.size]? = some (.cells #[.string ⟨#[]⟩] 9 (0, 0)) ∧ W1.heap[w.heap.size + 1]? = some (.cells #[.int .i64 0] 30 (0, 0)) ∧ Fr noB w W1 :=
    ⟨_, rfl, (heap_two w _ _).1, (heap_two w _ _).2, ((Fr.refl noB w).alloc _).alloc _⟩
  have HCk : Hid (Calls Tryz.prog 25 #[t.val] W1 fun e w' => e = .returned (.bool true) ∧ Fr noB W1 w') := by
    have h := check_t t W1 (Tm.Lies.fr hF1 t hL) (hT.fr hF1) hS
    rw [hf] at h
    exact h
  have hb1 := hF1.obj hb id
  have HB1 : Hid _ := hb1
  have HLo : Hid (∀ W2, Fr noB W1 W2 → TAt W2 bt 0 t ∧ PT W2) := fun W2 h2 => ⟨⟨⟨lt_of_block (h2.obj hb1 id), fun j v hv => by rw [Nat.zero_add]; exact cellOf (h2.obj hb1 id) (by simpa using hv)⟩, Tm.Lies.fr (hF1.trans h2) t hL⟩, hT.fr (hF1.trans h2)⟩
  have HWr : Hid (WrOk t) := hW
  have HW1 : Hid _ := hW1
  have HF1 : Hid (Fr noB w W1) := hF1
  have H6 : Hid _ := hs6
  have H7 : Hid _ := hs7
  obtain ⟨g, hg⟩ := sv_of t
  rw [val_eq, hg] at HCk
  rw [hg] at HB1
  have hin : (Tryz.prog.info? 29).map (·.size) = some (t.f.cells (.slice g t.args.length t.cap)).toArray.size := by rw [info_tm]; rfl
  generalize (t.f.cells (.slice g t.args.length t.cap)).toArray = CS at *
  obtain ⟨TT, hTT⟩ : ∃ TT, textF t = TT := ⟨_, rfl⟩
  have HTT : Hid (textF t = TT) := hTT
  rw [hTT] at hl hne ⊢
  obtain ⟨RR, hRR⟩ : ∃ RR, ah.data.toList ++ TT = RR := ⟨_, rfl⟩
  have HRR : Hid (ah.data.toList ++ TT = RR) := hRR
  rw [hRR] at hne ⊢
  clear hb hL hT hS hW hf hb1 hg hF1 hs6 hs7 hW1 hTT hRR
  go_enter_defers Tryz.func17, Tryz.ntmps17
  go_upto_region 2 with fail
  rw [HW1.out]
  clear HW1
  go_upto_region 3 with (first
    | (refine wpList_load_row rfl 29 (.tmp 11) rfl bt rfl 29 CS (0, 0) _ HB1.out Tryz.underlying29 rfl hin ?_)
    | (go_at_call 25; refine HCk.out.mono ?_; rintro e w2 ⟨rfl, hF2⟩)
    | (go_at_call 24; refine (phold_ok 140 _).mono ?_; rintro e w2' ⟨rfl, hq⟩; rw [hq]; clear hq))
  have HF2 : Hid (Fr noB W1 w2) := hF2
  obtain ⟨W3, hW3⟩ : ∃ W3, w2.alloc (.cells #[.pointer none, .slice none 0 0, .int .i64 (m : Int)] 57 (0, 0)) = W3 := ⟨_, rfl⟩
  have HF3 : Hid (Fr noB w2 W3) := by
    show Fr noB w2 W3
    rw [← hW3]
    exact (Fr.refl noB w2).alloc _
  have HWt : Hid (Wt w2.heap.size w2.heap.size (m : Int) [] W3) := by
    refine .inl ⟨Nat.le_refl _, HF3.out.size, .slice none 0 0, ?_, World.ownsRowF_of (World.ownsRow_nil _ _ _ _), by simp [Value.ownBlock]⟩
    rw [← hW3]
    exact heap_alloc_new w2 _
  have HL3 := HLo.out w2 hF2
  obtain ⟨hA2, hT2⟩ := HL3
  have HPu : Hid (Calls Tryz.prog 26 #[.pointer (some ⟨w2.heap.size, 0, none⟩), .string ah] W3 fun e w' => e = .returned (.tuple #[]) ∧ Wt w2.heap.size w2.heap.size (m : Int) ah.data.toList w' ∧ Fr noB w2 w') := by
    have h := wput_ok w2 w2.heap.size m [] ah W3 HF3.out HWt.out hm (by simp only [List.length_nil]; omega)
    rw [List.nil_append] at h
    exact h
  have HTm : Hid (∀ V, Fr noB w2 V → Wt w2.heap.size w2.heap.size (m : Int) ah.data.toList V → Calls Tryz.prog 27 #[.pointer (some ⟨w2.heap.size, 0, none⟩), .pointer (some ⟨bt, 0, none⟩)] V fun e w' => e = .returned (.tuple #[]) ∧ Wt w2.heap.size w2.heap.size (m : Int) RR w' ∧ Fr noB w2 w') := fun V h1 h2 => by
    have h := HWr.out w2 w2.heap.size m ah.data.toList V bt 0 hA2 hT2 h1 h2 hm (by rw [HTT.out]; exact hl)
    rw [HTT.out, HRR.out] at h
    exact h
  clear hA2 hT2 hF2
  have HK6 : Hid (∀ V, Fr noB w2 V → V.heap[w.heap.size]? = some (.cells #[.string ⟨#[]⟩] 9 (0, 0)) ∧ V.heap[w.heap.size + 1]? = some (.cells #[.int .i64 0] 30 (0, 0))) := fun V hV => ⟨(HF2.out.trans hV).obj H6.out id, (HF2.out.trans hV).obj H7.out id⟩
  have HNe : Hid (RR ≠ []) := hne
  generalize hbw : w2.heap.size = bw at *
  clear hne hl
  go_upto_region 4 with fail
  (first | rw [hbw] | skip)
  (first | rw [hW3] | skip)
  clear hW3
  go_wp2_with (first
    | (go_at_call 26; refine HPu.out.mono ?_; rintro e w4 ⟨rfl, hW4, hF4⟩)
    | (go_at_call 27; refine (HTm.out _ hF4 hW4).mono ?_; rintro e w5 ⟨rfl, hW5, hF5⟩)
    | (go_at_call 28; refine (wstring_any bw bw (m : Int) RR _ hW5 HNe.out).mono ?_; rintro e w6 ⟨rfl, hB6⟩; have hF6 : Fr noB w2 w6 := hF5.grows (by rw [hbw]; exact hB6); obtain ⟨hk6, hk7⟩ := HK6.out w6 hF6; have i0 := cellOf (o := 0) hk6 rfl; have i1 := freeOf 0 hk6; have j0 := cellOf (o := 0) hk7 rfl; have j1 := freeOf 0 hk7))
  have hIF := (Below.heap_setCell _ ⟨w.heap.size + 1, 0, none⟩ (.int .i64 0) w.heap.size (by simp)).trans (setOf 0 (.string ⟨RR.toArray⟩) hk6)
  have hEF := setOf 0 (.int .i64 0) ((Below.heap_setCell _ ⟨w.heap.size, 0, none⟩ (.string ⟨RR.toArray⟩) (w.heap.size + 1) (by simp)).trans hk7)
  have hGF : Fr noB w _ := ((((HF1.out.trans HF2.out).trans hF6).setCell ⟨w.heap.size, 0, none⟩ (Or.inr (Nat.le_refl _)) (.string ⟨RR.toArray⟩)).setCell ⟨w.heap.size + 1, 0, none⟩ (Or.inr (Nat.le_succ _)) (.int .i64 0))
  have iF := cellOf (o := 0) hIF rfl
  have jF := cellOf (o := 0) hEF rfl
  clear hk6 hk7 i0 i1 j0 j1 hIF hEF
  generalize World.setCell _ _ _ = WF at *
  refine leaves_cons (f := 23) (args := #[.pointer (some ⟨w.heap.size, 0, none⟩), .pointer (some ⟨w.heap.size + 1, 0, none⟩)]) (by simp) (by simp [go_sem]) ?_
  refine (pcatch_idle ⟨w.heap.size, 0, none⟩ ⟨w.heap.size + 1, 0, none⟩ _).mono ?_
  rintro e u' w'' ⟨rfl, rfl, rfl⟩
  simp only [Leaves, settle]
  refine ⟨.tuple #[.string ⟨RR.toArray⟩, .int .i64 0], by simp [results, Tryz.results17, go_sem, iF, jF], rfl, hGF⟩
set_option maxRecDepth 100000 in
set_option maxHeartbeats 1000000 in
theorem formula_ok (t : Tm) (w : World) (hL : t.Lies w) (hT : PT w) (hS : StOk t) (hW : WrOk t) (hf : fitsF t 1 = true) (hl : (textF t).length ≤ 8191) :
    Calls Tryz.prog 6 #[t.val] w fun e w' => e = .returned (.tuple #[.string ⟨(61 :: textF t).toArray⟩, .int .i64 0]) ∧ Fr noB w w' := by
  have hF : Fr noB w (w.alloc (.cells (t.f.cells t.sv).toArray 29 (0, 0))) := (Fr.refl noB w).alloc _
  have h := written_ok t ⟨#[61]⟩ 8192 w.heap.size _ (heap_alloc_new w _) (Tm.Lies.fr hF t hL) (hT.fr hF) hS hW hf (by omega) (by simp; omega) (by simp)
  rw [val_eq]
  obtain ⟨g, hg⟩ := sv_of t
  rw [hg] at h hF ⊢
  have HF : Hid (Fr noB w (w.alloc (.cells (t.f.cells (.slice g t.args.length t.cap)).toArray 29 (0, 0)))) := hF
  generalize textF t = TT at *
  generalize t.args.length = n at *
  generalize t.cap = c at *
  generalize hff : t.f = f at *
  clear hL hT hS hW hf hF hg hff hl
  obtain ⟨op, x, t', er, nm, r1, r2, r3, r4, r5, r6, r7, r8, r9, r10, r11, r12, rows⟩ := f
  simp only [TF.cells] at h HF ⊢
  obtain ⟨W0, hW0⟩ : ∃ W0, w.alloc (.cells #[.int .i64 op, .float .f64 x, .string t', .int .i64 er, .string nm, .string r1, .string r2, .bool r3, .bool r4, .int .i64 r5, .int .i64 r6, .bool r7, .bool r8, .int .i64 r9, .int .i64 r10, .bool r11, .bool r12, .int .i64 rows, .slice g n c] 29 (0, 0)) = W0 := ⟨_, rfl⟩
  have h2 : Calls Tryz.prog 17 #[.string ⟨#[61]⟩, .pointer (some ⟨w.heap.size, 0, none⟩), .int .i64 8192] W0 fun e w' => e = .returned (.tuple #[.string ⟨(61 :: TT).toArray⟩, .int .i64 0]) ∧ Fr noB W0 w' := by
    rw [← hW0]
    exact h
  have HF0 : Hid (Fr noB w W0) := by
    show Fr noB w W0
    rw [← hW0]
    exact HF.out
  clear h HF
  go_enter Tryz.func6, Tryz.ntmps6
  go_upto_region 1 with fail
  (first | rw [hW0] | skip)
  clear hW0
  go_wp2_with (go_at_call 17; refine h2.mono ?_; rintro e w1 ⟨rfl, hF1⟩)
  go_ret2
  exact ⟨rfl, HF0.out.trans hF1⟩
#print axioms written_ok
#print axioms formula_ok
#print axioms check_t
#print axioms pcatch_idle
end Go.Proofs.YtdmjbhbiehjelaaGreatDoor
/- The law's begun. -/
namespace Go.Proofs.YtdmjbhbiehjelaaGreatDoor
open Go.RowKit Go.Shelf

set_option maxRecDepth 100000 in
set_option maxHeartbeats 1000000 in
theorem prime_num (t : Tm) (h : t.f.op = 1) (b o D : Nat) (w : World) (hA : TAt w b o t) (hT : PT w) (hD : D ≤ 64) (hb : bareF t.f = true) :
    Calls Tryz.prog 66 #[.pointer (some ⟨b, o, none⟩), .int .i64 (D : Int)] w fun e w' => e = .returned (.bool (fitsF t D)) ∧ Fr noB w w' := by
  have c0 := hA.c0
  have hcp := hA.lies.cap
  have HC := constS_any t.f t.args.length t.cap t.sl b o w hT hA.lies.ok (by omega) hA.row
  have e : fitsF t D = (decide (t.args.length = 0) && constF t.f) := by
    rw [fits_leaf t D (.inl h) hD hb]
    unfold leafF
    rw [if_neg (by omega), if_neg (by omega)]
  rw [← e] at HC
  generalize fitsF t D = V at *
  rw [h] at c0
  clear hA hT hb e hcp h
  go_enter Tryz.func66, Tryz.ntmps66
  go_wp2_with (go_at_call 100; refine HC.mono ?_; rintro e w1 ⟨rfl, hF1⟩)
  go_ret
  exact ⟨rfl, hF1⟩
theorem st_num (t : Tm) (h : t.f.op = 1) : StOk t := by
  intro b o line d W hA hT _ _ hd
  exact st_prime t b o line d W hA hT hd (by rw [h]; decide) (fun D V hD hb hV => prime_num t h b o D V (hA.fr hV) (hT.fr hV) hD hb)
theorem st_two (t : Tm) (h1 : 1 ≤ lnF t.f.op) (h2 : lnF t.f.op ≤ 9) (h7 : ¬ lnF t.f.op = 7) (h6 : ¬ lnF t.f.op = 6) (P : Tm → Prop) (hP : ∀ x a, P x → a ∈ x.args → P a ∧ StOk a) (ht : P t) : StOk t := by
  intro b o line d W hA hT _ _ hd
  exact st_row t b o line d W hA hT hd h1 h2 h7 (fun D V hD _ hV => rowS2 t b o D V (hA.fr hV) (hT.fr hV) h1 h2 h7 h6 hD P hP ht)
/-- The terms of begun: 1, 1-1, 1-(1-1). -/
def oneT : Tm := .mk ⟨1, 4607182418800017408, ⟨#[]⟩, 0, ⟨#[]⟩, ⟨#[]⟩, ⟨#[]⟩, false, false, 0, 0, false, false, 0, 0, false, false, 0⟩ none 0 []
def inT (k : Nat) : Tm := .mk ⟨16, 0, ⟨#[]⟩, 0, ⟨#[]⟩, ⟨#[]⟩, ⟨#[]⟩, false, false, 0, 0, false, false, 0, 0, false, false, 0⟩ (some (k, 0)) 2 [oneT, oneT]
def outT (k j : Nat) : Tm := .mk ⟨16, 0, ⟨#[]⟩, 0, ⟨#[]⟩, ⟨#[]⟩, ⟨#[]⟩, false, false, 0, 0, false, false, 0, 0, false, false, 0⟩ (some (j, 0)) 2 [oneT, inT k]
theorem one_st : StOk oneT := st_num oneT rfl
theorem in_st (k : Nat) : StOk (inT k) := by
  refine st_two (inT k) (show 1 ≤ lnF 16 by decide) (show lnF 16 ≤ 9 by decide) (show ¬ lnF 16 = 7 by decide) (show ¬ lnF 16 = 6 by decide) (fun x => x = inT k ∨ x = oneT) (fun x a hx ha => ?_) (.inl rfl)
  rcases hx with rfl | rfl
  · have : a = oneT := by simpa [inT, Tm.args] using ha
    subst this
    exact ⟨.inr rfl, one_st⟩
  · simp [oneT, Tm.args] at ha
theorem out_st (k j : Nat) : StOk (outT k j) := by
  refine st_two (outT k j) (show 1 ≤ lnF 16 by decide) (show lnF 16 ≤ 9 by decide) (show ¬ lnF 16 = 7 by decide) (show ¬ lnF 16 = 6 by decide) (fun x => x = outT k j ∨ x = inT k ∨ x = oneT) (fun x a hx ha => ?_) (.inl rfl)
  rcases hx with rfl | rfl | rfl
  · have : a = oneT ∨ a = inT k := by simpa [outT, Tm.args] using ha
    rcases this with rfl | rfl
    · exact ⟨.inr (.inr rfl), one_st⟩
    · exact ⟨.inr (.inl rfl), in_st k⟩
  · have : a = oneT := by simpa [inT, Tm.args] using ha
    subst this
    exact ⟨.inr (.inr rfl), one_st⟩
  · simp [oneT, Tm.args] at ha
theorem one_fin : finB 4607182418800017408 = true := by decide +kernel
theorem one_wr : WrOk oneT := wr_num oneT rfl one_fin
theorem in_wr (k : Nat) : WrOk (inT k) := wr_op2 (inT k) oneT oneT (show (12 : Int) ≤ 16 by decide) rfl one_wr one_wr
theorem out_wr (k j : Nat) : WrOk (outT k j) := wr_op2 (outT k j) oneT (inT k) (show (12 : Int) ≤ 16 by decide) rfl one_wr (in_wr k)
theorem one_text : ttL 4607182418800017408 = [49] := by decide +kernel
theorem out_text (k j : Nat) : textF (outT k j) = [49, 45, 40, 49, 45, 49, 41] := by
  rw [text_two2 (outT k j) oneT (inT k) (show (12 : Int) ≤ 16 by decide) rfl, text_two2 (inT k) oneT oneT (show (12 : Int) ≤ 16 by decide) rfl, text_num oneT rfl]
  rw [show ttL oneT.f.x = [49] from one_text]
  rfl
theorem empn : nmF ⟨#[]⟩ = false := by decide
theorem out_fits (k j : Nat) : fitsF (outT k j) 1 = true := by
  have b16 : bareF ⟨16, 0, ⟨#[]⟩, 0, ⟨#[]⟩, ⟨#[]⟩, ⟨#[]⟩, false, false, 0, 0, false, false, 0, 0, false, false, 0⟩ = true := by decide +kernel
  have b1 : bareF ⟨1, 4607182418800017408, ⟨#[]⟩, 0, ⟨#[]⟩, ⟨#[]⟩, ⟨#[]⟩, false, false, 0, 0, false, false, 0, 0, false, false, 0⟩ = true := by decide +kernel
  have o : ∀ d, d ≤ 64 → fitsF oneT d = true := fun d hd => by
    rw [fits_leaf oneT d (.inl rfl) hd b1]
    show (decide (0 = 0) && leafF ⟨1, 4607182418800017408, ⟨#[]⟩, 0, ⟨#[]⟩, ⟨#[]⟩, ⟨#[]⟩, false, false, 0, 0, false, false, 0, 0, false, false, 0⟩) = true
    decide +kernel
  have c1 : chainF (inT k) = 1 := by
    rw [inT, chainF]; exact if_neg (show ¬ lnF 1 = lnF 16 by decide)
  have c2 : chainF (outT k j) = 1 := by
    rw [outT, chainF]; exact if_neg (show ¬ lnF 1 = lnF 16 by decide)
  have i1 : ∀ d, d ≤ 60 → fitsF (inT k) d = true := fun d hd => by
    rw [fits_two (inT k) oneT oneT d (show 1 ≤ lnF 16 by decide) (show lnF 16 ≤ 9 by decide) (show ¬ lnF 16 = 7 by decide) (show ¬ lnF 16 = 6 by decide) rfl (by rw [c1]; omega) b16, c1]
    rw [o _ (by split <;> omega), o _ (by split <;> omega)]
    rfl
  rw [fits_two (outT k j) oneT (inT k) 1 (show 1 ≤ lnF 16 by decide) (show lnF 16 ≤ 9 by decide) (show ¬ lnF 16 = 7 by decide) (show ¬ lnF 16 = 6 by decide) rfl (by rw [c2]; omega) b16, c2]
  rw [o _ (by split <;> omega), i1 _ (by split <;> omega)]
  rfl
theorem row_part {W : World} {B o : Nat} {cs : Array Value} {ty : TypeId} {L : List Value} (h : W.heap[B]? = some (.cells cs ty (0, 0))) (hL : ∀ j v, L[j]? = some v → cs[o + j]? = some v) : RowAt W B o L :=
  ⟨lt_of_block h, fun j v hv => cellOf h (hL j v hv)⟩
theorem lt19 {L : List Value} (h : L.length = 19) {j : Nat} {v : Value} (hv : L[j]? = some v) : j < 19 := by
  rcases Nat.lt_or_ge j 19 with e | e
  · exact e
  · rw [List.getElem?_eq_none (by omega)] at hv; cases hv
theorem ok1 : TF.ok ⟨1, 4607182418800017408, ⟨#[]⟩, 0, ⟨#[]⟩, ⟨#[]⟩, ⟨#[]⟩, false, false, 0, 0, false, false, 0, 0, false, false, 0⟩ := by constructor <;> decide
theorem ok16 : TF.ok ⟨16, 0, ⟨#[]⟩, 0, ⟨#[]⟩, ⟨#[]⟩, ⟨#[]⟩, false, false, 0, 0, false, false, 0, 0, false, false, 0⟩ := by constructor <;> decide
set_option maxRecDepth 100000 in
theorem laid3 (W : World) (k j : Nat) (hk : W.heap[k]? = some (.cells #[.int .i64 1, .float .f64 4607182418800017408, .string ⟨#[]⟩, .int .i64 0, .string ⟨#[]⟩, .string ⟨#[]⟩, .string ⟨#[]⟩, .bool false, .bool false, .int .i64 0, .int .i64 0, .bool false, .bool false, .int .i64 0, .int .i64 0, .bool false, .bool false, .int .i64 0, .slice none 0 0, .int .i64 1, .float .f64 4607182418800017408, .string ⟨#[]⟩, .int .i64 0, .string ⟨#[]⟩, .string ⟨#[]⟩, .string ⟨#[]⟩, .bool false, .bool false, .int .i64 0, .int .i64 0, .bool false, .bool false, .int .i64 0, .int .i64 0, .bool false, .bool false, .int .i64 0, .slice none 0 0] 29 (0, 0))) (hj : W.heap[j]? = some (.cells #[.int .i64 1, .float .f64 4607182418800017408, .string ⟨#[]⟩, .int .i64 0, .string ⟨#[]⟩, .string ⟨#[]⟩, .string ⟨#[]⟩, .bool false, .bool false, .int .i64 0, .int .i64 0, .bool false, .bool false, .int .i64 0, .int .i64 0, .bool false, .bool false, .int .i64 0, .slice none 0 0, .int .i64 16, .float .f64 0, .string ⟨#[]⟩, .int .i64 0, .string ⟨#[]⟩, .string ⟨#[]⟩, .string ⟨#[]⟩, .bool false, .bool false, .int .i64 0, .int .i64 0, .bool false, .bool false, .int .i64 0, .int .i64 0, .bool false, .bool false, .int .i64 0, .slice (some ⟨k, 0, none⟩) 2 2] 29 (0, 0))) : (outT k j).Lies W := by
  have h1 : oneT.Lies W := by
    unfold oneT
    simp only [Tm.Lies]
    refine ⟨ok1, ?_⟩
    simp
  have r1 : RowAt W k 0 (oneT.f.cells oneT.sv) := row_part hk (fun j v hv => by
    have := lt19 rfl hv
    obtain rfl | rfl | rfl | rfl | rfl | rfl | rfl | rfl | rfl | rfl | rfl | rfl | rfl | rfl | rfl | rfl | rfl | rfl | rfl : j = 0 ∨ j = 1 ∨ j = 2 ∨ j = 3 ∨ j = 4 ∨ j = 5 ∨ j = 6 ∨ j = 7 ∨ j = 8 ∨ j = 9 ∨ j = 10 ∨ j = 11 ∨ j = 12 ∨ j = 13 ∨ j = 14 ∨ j = 15 ∨ j = 16 ∨ j = 17 ∨ j = 18 := by omega
    all_goals exact hv)
  have r2 : RowAt W k 19 (oneT.f.cells oneT.sv) := row_part hk (fun j v hv => by
    have := lt19 rfl hv
    obtain rfl | rfl | rfl | rfl | rfl | rfl | rfl | rfl | rfl | rfl | rfl | rfl | rfl | rfl | rfl | rfl | rfl | rfl | rfl : j = 0 ∨ j = 1 ∨ j = 2 ∨ j = 3 ∨ j = 4 ∨ j = 5 ∨ j = 6 ∨ j = 7 ∨ j = 8 ∨ j = 9 ∨ j = 10 ∨ j = 11 ∨ j = 12 ∨ j = 13 ∨ j = 14 ∨ j = 15 ∨ j = 16 ∨ j = 17 ∨ j = 18 := by omega
    all_goals exact hv)
  have r3 : RowAt W j 0 (oneT.f.cells oneT.sv) := row_part hj (fun j v hv => by
    have := lt19 rfl hv
    obtain rfl | rfl | rfl | rfl | rfl | rfl | rfl | rfl | rfl | rfl | rfl | rfl | rfl | rfl | rfl | rfl | rfl | rfl | rfl : j = 0 ∨ j = 1 ∨ j = 2 ∨ j = 3 ∨ j = 4 ∨ j = 5 ∨ j = 6 ∨ j = 7 ∨ j = 8 ∨ j = 9 ∨ j = 10 ∨ j = 11 ∨ j = 12 ∨ j = 13 ∨ j = 14 ∨ j = 15 ∨ j = 16 ∨ j = 17 ∨ j = 18 := by omega
    all_goals exact hv)
  have r4 : RowAt W j 19 ((inT k).f.cells (inT k).sv) := row_part hj (fun j v hv => by
    have := lt19 rfl hv
    obtain rfl | rfl | rfl | rfl | rfl | rfl | rfl | rfl | rfl | rfl | rfl | rfl | rfl | rfl | rfl | rfl | rfl | rfl | rfl : j = 0 ∨ j = 1 ∨ j = 2 ∨ j = 3 ∨ j = 4 ∨ j = 5 ∨ j = 6 ∨ j = 7 ∨ j = 8 ∨ j = 9 ∨ j = 10 ∨ j = 11 ∨ j = 12 ∨ j = 13 ∨ j = 14 ∨ j = 15 ∨ j = 16 ∨ j = 17 ∨ j = 18 := by omega
    all_goals exact hv)
  have h2 : (inT k).Lies W := by
    unfold inT
    simp only [Tm.Lies, LiesL]
    exact ⟨ok16, by simp, by omega, ⟨r1, h1⟩, ⟨r2, h1⟩, trivial⟩
  unfold outT
  simp only [Tm.Lies, LiesL]
  exact ⟨ok16, by simp, by omega, ⟨r3, h1⟩, ⟨r4, h2⟩, trivial⟩
set_option maxRecDepth 100000 in
set_option maxHeartbeats 2000000 in
theorem begun_p (w : World) (hT : PT w) : Calls Tryz.prog 10 #[] w fun e w' => e = .returned (.bool true) ∧ Fr noB w w' := by
  have HZ : Hid _ := heap_alloc_new w (.cells #[.int .i64 0, .float .f64 0, .string ⟨#[]⟩, .int .i64 0, .string ⟨#[]⟩, .string ⟨#[]⟩, .string ⟨#[]⟩, .bool false, .bool false, .int .i64 0, .int .i64 0, .bool false, .bool false, .int .i64 0, .int .i64 0, .bool false, .bool false, .int .i64 0, .slice none 0 0] 29 (0, 0))
  obtain ⟨W1, hW1, hB1, hF1⟩ : ∃ W1, (w.alloc (.cells #[.int .i64 0, .float .f64 0, .string ⟨#[]⟩, .int .i64 0, .string ⟨#[]⟩, .string ⟨#[]⟩, .string ⟨#[]⟩, .bool false, .bool false, .int .i64 0, .int .i64 0, .bool false, .bool false, .int .i64 0, .int .i64 0, .bool false, .bool false, .int .i64 0, .slice none 0 0] 29 (0, 0))).setRow w.heap.size #[.int .i64 1, .float .f64 4607182418800017408, .string ⟨#[]⟩, .int .i64 0, .string ⟨#[]⟩, .string ⟨#[]⟩, .string ⟨#[]⟩, .bool false, .bool false, .int .i64 0, .int .i64 0, .bool false, .bool false, .int .i64 0, .int .i64 0, .bool false, .bool false, .int .i64 0, .slice none 0 0] = W1 ∧ W1.heap[w.heap.size]? = some (.cells #[.int .i64 1, .float .f64 4607182418800017408, .string ⟨#[]⟩, .int .i64 0, .string ⟨#[]⟩, .string ⟨#[]⟩, .string ⟨#[]⟩, .bool false, .bool false, .int .i64 0, .int .i64 0, .bool false, .bool false, .int .i64 0, .int .i64 0, .bool false, .bool false, .int .i64 0, .slice none 0 0] 29 (0, 0)) ∧ Fr noB w W1 :=
    ⟨_, rfl, setRow_heap _ _ _ _ _ _ (heap_alloc_new w _), ((Fr.refl noB w).alloc _).setRowX _ (Or.inr (Nat.le_refl _)) _⟩
  have HB1 : Hid _ := hB1
  have HW1 : Hid _ := hW1
  have h2 := heap_two W1 (.cells #[.int .i64 1, .float .f64 4607182418800017408, .string ⟨#[]⟩, .int .i64 0, .string ⟨#[]⟩, .string ⟨#[]⟩, .string ⟨#[]⟩, .bool false, .bool false, .int .i64 0, .int .i64 0, .bool false, .bool false, .int .i64 0, .int .i64 0, .bool false, .bool false, .int .i64 0, .slice none 0 0, .int .i64 1, .float .f64 4607182418800017408, .string ⟨#[]⟩, .int .i64 0, .string ⟨#[]⟩, .string ⟨#[]⟩, .string ⟨#[]⟩, .bool false, .bool false, .int .i64 0, .int .i64 0, .bool false, .bool false, .int .i64 0, .int .i64 0, .bool false, .bool false, .int .i64 0, .slice none 0 0] 29 (0, 0)) (.cells #[.int .i64 1, .float .f64 4607182418800017408, .string ⟨#[]⟩, .int .i64 0, .string ⟨#[]⟩, .string ⟨#[]⟩, .string ⟨#[]⟩, .bool false, .bool false, .int .i64 0, .int .i64 0, .bool false, .bool false, .int .i64 0, .int .i64 0, .bool false, .bool false, .int .i64 0, .slice none 0 0, .int .i64 16, .float .f64 0, .string ⟨#[]⟩, .int .i64 0, .string ⟨#[]⟩, .string ⟨#[]⟩, .string ⟨#[]⟩, .bool false, .bool false, .int .i64 0, .int .i64 0, .bool false, .bool false, .int .i64 0, .int .i64 0, .bool false, .bool false, .int .i64 0, .slice (some ⟨W1.heap.size, 0, none⟩) 2 2] 29 (0, 0))
  have hF3 : Fr noB w ((W1.alloc (.cells #[.int .i64 1, .float .f64 4607182418800017408, .string ⟨#[]⟩, .int .i64 0, .string ⟨#[]⟩, .string ⟨#[]⟩, .string ⟨#[]⟩, .bool false, .bool false, .int .i64 0, .int .i64 0, .bool false, .bool false, .int .i64 0, .int .i64 0, .bool false, .bool false, .int .i64 0, .slice none 0 0, .int .i64 1, .float .f64 4607182418800017408, .string ⟨#[]⟩, .int .i64 0, .string ⟨#[]⟩, .string ⟨#[]⟩, .string ⟨#[]⟩, .bool false, .bool false, .int .i64 0, .int .i64 0, .bool false, .bool false, .int .i64 0, .int .i64 0, .bool false, .bool false, .int .i64 0, .slice none 0 0] 29 (0, 0))).alloc (.cells #[.int .i64 1, .float .f64 4607182418800017408, .string ⟨#[]⟩, .int .i64 0, .string ⟨#[]⟩, .string ⟨#[]⟩, .string ⟨#[]⟩, .bool false, .bool false, .int .i64 0, .int .i64 0, .bool false, .bool false, .int .i64 0, .int .i64 0, .bool false, .bool false, .int .i64 0, .slice none 0 0, .int .i64 16, .float .f64 0, .string ⟨#[]⟩, .int .i64 0, .string ⟨#[]⟩, .string ⟨#[]⟩, .string ⟨#[]⟩, .bool false, .bool false, .int .i64 0, .int .i64 0, .bool false, .bool false, .int .i64 0, .int .i64 0, .bool false, .bool false, .int .i64 0, .slice (some ⟨W1.heap.size, 0, none⟩) 2 2] 29 (0, 0))) := (hF1.alloc _).alloc _
  have HFo := formula_ok (outT W1.heap.size (W1.heap.size + 1)) _ (laid3 _ _ _ h2.1 h2.2) (hT.fr hF3) (out_st _ _) (out_wr _ _) (out_fits _ _) (by rw [out_text]; decide)
  rw [out_text] at HFo
  have HF3 : Hid (Fr noB w ((W1.alloc (.cells #[.int .i64 1, .float .f64 4607182418800017408, .string ⟨#[]⟩, .int .i64 0, .string ⟨#[]⟩, .string ⟨#[]⟩, .string ⟨#[]⟩, .bool false, .bool false, .int .i64 0, .int .i64 0, .bool false, .bool false, .int .i64 0, .int .i64 0, .bool false, .bool false, .int .i64 0, .slice none 0 0, .int .i64 1, .float .f64 4607182418800017408, .string ⟨#[]⟩, .int .i64 0, .string ⟨#[]⟩, .string ⟨#[]⟩, .string ⟨#[]⟩, .bool false, .bool false, .int .i64 0, .int .i64 0, .bool false, .bool false, .int .i64 0, .int .i64 0, .bool false, .bool false, .int .i64 0, .slice none 0 0] 29 (0, 0))).alloc (.cells #[.int .i64 1, .float .f64 4607182418800017408, .string ⟨#[]⟩, .int .i64 0, .string ⟨#[]⟩, .string ⟨#[]⟩, .string ⟨#[]⟩, .bool false, .bool false, .int .i64 0, .int .i64 0, .bool false, .bool false, .int .i64 0, .int .i64 0, .bool false, .bool false, .int .i64 0, .slice none 0 0, .int .i64 16, .float .f64 0, .string ⟨#[]⟩, .int .i64 0, .string ⟨#[]⟩, .string ⟨#[]⟩, .string ⟨#[]⟩, .bool false, .bool false, .int .i64 0, .int .i64 0, .bool false, .bool false, .int .i64 0, .int .i64 0, .bool false, .bool false, .int .i64 0, .slice (some ⟨W1.heap.size, 0, none⟩) 2 2] 29 (0, 0)))) := hF3
  clear hB1 hW1 h2 hF3 hF1 hT
  go_enter Tryz.func10, Tryz.ntmps10
  go_upto_region 2 with (refine wpList_store_row rfl 29 (.tmp 1) (.tmp 4) rfl w.heap.size #[.int .i64 1, .float .f64 4607182418800017408, .string ⟨#[]⟩, .int .i64 0, .string ⟨#[]⟩, .string ⟨#[]⟩, .string ⟨#[]⟩, .bool false, .bool false, .int .i64 0, .int .i64 0, .bool false, .bool false, .int .i64 0, .int .i64 0, .bool false, .bool false, .int .i64 0, .slice none 0 0] rfl rfl 29 _ HZ.out info_tm rfl (tm_one _ _ _ _ _ _ _ _ _ _ _ _ _ _ _ _ _ _ _ _ _) ?_)
  rw [HW1.out]
  clear HW1 HZ
  go_wp2_with (first
    | (refine wpList_load_row rfl 29 (.tmp 1) rfl w.heap.size rfl 29 #[.int .i64 1, .float .f64 4607182418800017408, .string ⟨#[]⟩, .int .i64 0, .string ⟨#[]⟩, .string ⟨#[]⟩, .string ⟨#[]⟩, .bool false, .bool false, .int .i64 0, .int .i64 0, .bool false, .bool false, .int .i64 0, .int .i64 0, .bool false, .bool false, .int .i64 0, .slice none 0 0] (0, 0) _ HB1.out Tryz.underlying29 rfl info_tm ?_)
    | (go_at_call 6; refine Calls.mono (show Calls Tryz.prog 6 _ _ _ from HFo) ?_; rintro e w2 ⟨rfl, hF2⟩))
  go_ret
  exact ⟨rfl, HF3.out.trans hF2⟩
#print axioms begun_p
#print axioms out_fits
#print axioms out_text
#print axioms out_st
end Go.Proofs.YtdmjbhbiehjelaaGreatDoor
/- PrintSigns: the document's signs and levels, and the law's walk. -/
namespace Go.Proofs.YtdmjbhbiehjelaaGreatDoor
open Go.RowKit Go.Shelf

def sg17 : Array Value := #[.string ⟨#[43]⟩, .string ⟨#[45]⟩, .string ⟨#[37]⟩, .string ⟨#[94]⟩, .string ⟨#[42]⟩, .string ⟨#[47]⟩, .string ⟨#[43]⟩, .string ⟨#[45]⟩, .string ⟨#[38]⟩, .string ⟨#[61]⟩, .string ⟨#[60, 62]⟩, .string ⟨#[60]⟩, .string ⟨#[60, 61]⟩, .string ⟨#[62]⟩, .string ⟨#[62, 61]⟩, .string ⟨#[126]⟩, .string ⟨#[33]⟩]
theorem sg17_at (n : Nat) (h : n < 17) : sg17[n]? = some (.string (sgF ((n : Int) + 9))) := by
  obtain rfl | rfl | rfl | rfl | rfl | rfl | rfl | rfl | rfl | rfl | rfl | rfl | rfl | rfl | rfl | rfl | rfl : n = 0 ∨ n = 1 ∨ n = 2 ∨ n = 3 ∨ n = 4 ∨ n = 5 ∨ n = 6 ∨ n = 7 ∨ n = 8 ∨ n = 9 ∨ n = 10 ∨ n = 11 ∨ n = 12 ∨ n = 13 ∨ n = 14 ∨ n = 15 ∨ n = 16 := by omega
  all_goals rfl
set_option maxRecDepth 100000 in
set_option maxHeartbeats 2000000 in
theorem rsign_any (op : Int) (w : World) : Calls Tryz.prog 12 #[.int .i64 op] w fun e w' => e = .returned (.string (sgF op)) ∧ Fr noB w w' := by
  have HF : Hid (∀ o, Fr noB w (w.alloc o)) := fun o => (Fr.refl noB w).alloc o
  by_cases h : 9 ≤ op ∧ op ≤ 25
  · obtain ⟨n, rfl⟩ : ∃ n : Nat, op = (n : Int) + 9 := ⟨(op - 9).toNat, by omega⟩
    have hn : n < 17 := by omega
    have hc : (w.alloc (.cells #[.string ⟨#[43]⟩, .string ⟨#[45]⟩, .string ⟨#[37]⟩, .string ⟨#[94]⟩, .string ⟨#[42]⟩, .string ⟨#[47]⟩, .string ⟨#[43]⟩, .string ⟨#[45]⟩, .string ⟨#[38]⟩, .string ⟨#[61]⟩, .string ⟨#[60, 62]⟩, .string ⟨#[60]⟩, .string ⟨#[60, 61]⟩, .string ⟨#[62]⟩, .string ⟨#[62, 61]⟩, .string ⟨#[126]⟩, .string ⟨#[33]⟩] 9 (0, 0))).cell? ⟨w.heap.size, n, none⟩ = some (.string (sgF ((n : Int) + 9))) := cellOf (heap_alloc_new w _) (sg17_at n hn)
    obtain ⟨q, hq⟩ : ∃ q : Int, (n : Int) + 9 = q := ⟨_, rfl⟩
    have hq1 : q - 9 = (n : Int) := by omega
    have hq2 : ¬ q < 9 := by omega
    have hq3 : ¬ 25 < q := by omega
    rw [hq] at hc ⊢
    have HQ : Hid _ := hq
    clear h hq
    generalize sgF q = S at *
    go_enter Tryz.func12, Tryz.ntmps12
    go_wp2_with fail
    go_ret
    exact ⟨rfl, HF.out _⟩
  · have e : sgF op = ⟨#[]⟩ := by
      unfold sgF
      repeat rw [if_neg (by omega)]
    rw [e]
    by_cases h1 : op < 9
    · clear e h
      go_enter Tryz.func12, Tryz.ntmps12
      go_wp2_with fail
      go_ret
      exact ⟨rfl, HF.out _⟩
    · have h2 : 25 < op := by omega
      clear e h
      go_enter Tryz.func12, Tryz.ntmps12
      go_wp2_with fail
      go_ret
      exact ⟨rfl, HF.out _⟩
set_option maxRecDepth 100000 in
set_option maxHeartbeats 2000000 in
theorem rlevel_any (op : Int) (w : World) : Calls Tryz.prog 14 #[.int .i64 op] w fun e w' => e = .returned (.int .i64 (lnF op : Int)) ∧ w' = w := by
  by_cases h1 : op < 1
  · rw [show lnF op = 0 by unfold lnF; (repeat' split) <;> first | rfl | omega]
    have g18 : ¬ 18 ≤ op := by omega
    have g1 : ¬ 1 ≤ op := by omega
    have n9 : ¬ op = 9 := by omega
    have n10 : ¬ op = 10 := by omega
    have n11 : ¬ op = 11 := by omega
    have n12 : ¬ op = 12 := by omega
    have n13 : ¬ op = 13 := by omega
    have n14 : ¬ op = 14 := by omega
    have n15 : ¬ op = 15 := by omega
    have n16 : ¬ op = 16 := by omega
    have n17 : ¬ op = 17 := by omega
    have n24 : ¬ op = 24 := by omega
    have n25 : ¬ op = 25 := by omega
    have b9 : (op == 9) = false := by simpa using n9
    have b10 : (op == 10) = false := by simpa using n10
    have b13 : (op == 13) = false := by simpa using n13
    have b14 : (op == 14) = false := by simpa using n14
    have b15 : (op == 15) = false := by simpa using n15
    have b16 : (op == 16) = false := by simpa using n16
    clear h1
    go_enter Tryz.func14, Tryz.ntmps14
    go_wp2_with fail
    go_ret
    exact ⟨rfl, rfl⟩
  by_cases h2 : 25 < op
  · rw [show lnF op = 0 by unfold lnF; (repeat' split) <;> first | rfl | omega]
    have g18 : 18 ≤ op := by omega
    have g23 : ¬ op ≤ 23 := by omega
    have g1 : 1 ≤ op := by omega
    have g8 : ¬ op ≤ 8 := by omega
    have n9 : ¬ op = 9 := by omega
    have n10 : ¬ op = 10 := by omega
    have n11 : ¬ op = 11 := by omega
    have n12 : ¬ op = 12 := by omega
    have n13 : ¬ op = 13 := by omega
    have n14 : ¬ op = 14 := by omega
    have n15 : ¬ op = 15 := by omega
    have n16 : ¬ op = 16 := by omega
    have n17 : ¬ op = 17 := by omega
    have n24 : ¬ op = 24 := by omega
    have n25 : ¬ op = 25 := by omega
    have b9 : (op == 9) = false := by simpa using n9
    have b10 : (op == 10) = false := by simpa using n10
    have b13 : (op == 13) = false := by simpa using n13
    have b14 : (op == 14) = false := by simpa using n14
    have b15 : (op == 15) = false := by simpa using n15
    have b16 : (op == 16) = false := by simpa using n16
    clear h1 h2
    go_enter Tryz.func14, Tryz.ntmps14
    go_wp2_with fail
    go_ret
    exact ⟨rfl, rfl⟩
  obtain rfl | rfl | rfl | rfl | rfl | rfl | rfl | rfl | rfl | rfl | rfl | rfl | rfl | rfl | rfl | rfl | rfl | rfl | rfl | rfl | rfl | rfl | rfl | rfl | rfl : op = 1 ∨ op = 2 ∨ op = 3 ∨ op = 4 ∨ op = 5 ∨ op = 6 ∨ op = 7 ∨ op = 8 ∨ op = 9 ∨ op = 10 ∨ op = 11 ∨ op = 12 ∨ op = 13 ∨ op = 14 ∨ op = 15 ∨ op = 16 ∨ op = 17 ∨ op = 18 ∨ op = 19 ∨ op = 20 ∨ op = 21 ∨ op = 22 ∨ op = 23 ∨ op = 24 ∨ op = 25 := by omega
  all_goals
    clear h1 h2
    go_enter Tryz.func14, Tryz.ntmps14
    go_wp2_with fail
    go_ret
    exact ⟨rfl, rfl⟩
set_option maxRecDepth 100000 in
set_option maxHeartbeats 2000000 in
theorem signs_walk (op : Int) (w : World) (hT : PT w) : Calls Tryz.prog 4 #[.int .i64 op] w fun e w' => e = .returned (.bool true) ∧ Below w.heap.size w w' := by
  have H0 := begun_p w hT
  have H1 : Hid (∀ W, Fr noB w W → Calls Tryz.prog 11 #[.int .i64 op] W fun e w' => e = .returned (.string (sgF op)) ∧ Fr noB W w') := fun W hW => psign_any op W (hT.fr hW).p
  have H2 : Hid (∀ W, Fr noB w W → Calls Tryz.prog 13 #[.int .i64 op] W fun e w' => e = .returned (.int .i64 (lnF op : Int)) ∧ Fr noB W w') := fun W hW => plevel_any op W (hT.fr hW).p
  have H3 := rsign_any op
  have H4 := rlevel_any op
  generalize sgF op = S at *
  generalize lnF op = L at *
  clear hT
  go_enter Tryz.func4, Tryz.ntmps4
  go_wp2_with (first
    | (go_at_call 10; refine H0.mono ?_; rintro e w1 ⟨rfl, hF1⟩)
    | (go_at_call 11; refine (H1.out _ hF1).mono ?_; rintro e w2 ⟨rfl, hF2⟩)
    | (go_at_call 12; refine (H3 _).mono ?_; rintro e w3 ⟨rfl, hF3⟩)
    | (go_at_call 13; refine (H2.out _ ((hF1.trans hF2).trans hF3)).mono ?_; rintro e w4 ⟨rfl, hF4⟩)
    | (go_at_call 14; refine (H4 _).mono ?_; rintro e w5 ⟨rfl, hq⟩; rw [hq]; clear hq))
  go_ret
  exact ⟨rfl, (((hF1.trans hF2).trans hF3).trans hF4).below (Nat.le_refl _) (fun _ h => h.elim)⟩
#print axioms signs_walk
#print axioms rsign_any
end Go.Proofs.YtdmjbhbiehjelaaGreatDoor
