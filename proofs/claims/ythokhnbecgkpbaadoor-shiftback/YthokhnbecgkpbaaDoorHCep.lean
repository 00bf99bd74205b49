/- Where a cell lies behind a shift: the program's Cell. -/
import Derived.Test.YthokhnbecgkpbaaDoorHCem
namespace Go.Proofs.YthokhnbecgkpbaaDoor
open Go.RowKit

def ceS (k K At s : Int) : Int := if K = 5 then comI At s else if K = 6 then gonI k s else if K = 7 then (if s = k then At else comI At (gonI k s)) else s
def ceR (k K At N s r : Int) : Int := if K ≤ 2 ∧ s = k then movI At N (decide (K = 1)) r else r
def ceC (k K At N s c : Int) : Int := if 3 ≤ K ∧ K ≤ 4 ∧ s = k then movI At N (decide (K = 3)) c else c
def ceB (k K At N s r c : Int) : Bool := if K ≤ 2 ∧ s = k then movB At N 1048576 (decide (K = 1)) r else if 3 ≤ K ∧ K ≤ 4 ∧ s = k then movB At N 1024 (decide (K = 3)) c else if K = 6 then !decide (s = k) else true
/-- Does a cell remain? -/
def remB (L : List ByteArray) (K : Int) (sh : ByteArray) (At N : Int) (nm : ByteArray) (s r c : Int) : Bool := decide (chkS L K sh At N nm = 0) && (inB L.length s r c && ceB (fndN L sh : Int) K At N s r c)
/-- What Cell answers. -/
def celV (L : List ByteArray) (K : Int) (sh : ByteArray) (At N : Int) (nm : ByteArray) (s r c : Int) : Value :=
  if remB L K sh At N nm s r c = true then .tuple #[.agg #[.int .i64 (ceS (fndN L sh : Int) K At s), .int .i64 (ceR (fndN L sh : Int) K At N s r), .int .i64 (ceC (fndN L sh : Int) K At N s c)], .bool true]
  else .tuple #[.agg #[.int .i64 0, .int .i64 0, .int .i64 0], .bool false]
theorem in_iff {l : Nat} {s r c : Int} (h : inB l s r c = true) : 0 ≤ s ∧ s < (l : Int) ∧ 0 ≤ r ∧ r < 1048576 ∧ 0 ≤ c ∧ c < 1024 := of_decide_eq_true h
theorem spn_ok {At N lim : Int} (h : spnF At N lim = 0) : 1 ≤ N ∧ 0 ≤ At ∧ At + N ≤ lim := by
  unfold spnF at h
  split at h
  · assumption
  · cases h
theorem chk_kind {L : List ByteArray} {K : Int} {sh : ByteArray} {At N : Int} {nm : ByteArray} (h : chkS L K sh At N nm = 0) : 1 ≤ K ∧ K ≤ 8 := by
  unfold chkS at h
  by_cases k0 : K < 1 ∨ 8 < K
  · rw [if_pos k0] at h; cases h
  · omega
theorem chk_span {L : List ByteArray} {K : Int} {sh : ByteArray} {At N : Int} {nm : ByteArray} (h : chkS L K sh At N nm = 0) (hk : K ≤ 4) : 1 ≤ N ∧ 0 ≤ At ∧ At + N ≤ limF K := by
  have hk2 := chk_kind h
  unfold chkS at h
  rw [if_neg (by omega), if_neg (by omega)] at h
  by_cases hb : fndB L sh = false
  · rw [if_pos hb] at h; cases h
  · rw [if_neg hb, if_neg (by omega), if_neg (by omega), if_neg (by omega)] at h
    exact spn_ok h
theorem cellMoved_all (ao : Option Addr) (cap : Nat) (L : List ByteArray) (K : Int) (sh : ByteArray) (At N : Int) (nm : ByteArray) (s r c : Int) (w : World) (h : SsAt w ao L) (hl : L.length ≤ 140737488355328) (hc : chkS L K sh At N nm = 0) (hi : inB L.length s r c = true) :
    Calls Tryd.prog 37 #[.slice ao L.length cap, .agg #[.int .i64 K, .string sh, .int .i64 At, .int .i64 N, .string nm], .agg #[.int .i64 s, .int .i64 r, .int .i64 c]] w fun e w' => e = .returned (.tuple #[.agg #[.int .i64 (ceS (fndN L sh : Int) K At s), .int .i64 (ceR (fndN L sh : Int) K At N s r), .int .i64 (ceC (fndN L sh : Int) K At N s c)], .bool (ceB (fndN L sh : Int) K At N s r c)]) ∧ Fr noB w w' := by
  have hk := chk_kind hc
  have hin := in_iff hi
  have e : K = 1 ∨ K = 2 ∨ K = 3 ∨ K = 4 ∨ K = 5 ∨ K = 6 ∨ K = 7 ∨ K = 8 := by omega
  rcases e with rfl | rfl | rfl | rfl | rfl | rfl | rfl | rfl
  · have hs := chk_span hc (by omega)
    unfold limF at hs
    rw [if_pos (by decide)] at hs
    by_cases hsk : s = (fndN L sh : Int)
    · have H := cellMoved_1on ao cap L sh At N nm s r c w h hl hsk (by omega) (by omega) (by omega) (by omega) (by omega) (by omega)
      have e1 : ceS (fndN L sh : Int) 1 At s = s := rfl
      have e2 : ceR (fndN L sh : Int) 1 At N s r = movI At N true r := by unfold ceR; rw [if_pos ⟨by decide, hsk⟩]; rfl
      have e3 : ceC (fndN L sh : Int) 1 At N s c = c := by unfold ceC; rw [if_neg (by omega)]
      have e4 : ceB (fndN L sh : Int) 1 At N s r c = movB At N 1048576 true r := by unfold ceB; rw [if_pos ⟨by decide, hsk⟩]; rfl
      rw [e1, e2, e3, e4]
      exact H
    · have H := cellMoved_1off ao cap L sh At N nm s r c w h hl hsk
      have e1 : ceS (fndN L sh : Int) 1 At s = s := rfl
      have e2 : ceR (fndN L sh : Int) 1 At N s r = r := by unfold ceR; exact if_neg (fun q => hsk q.2)
      have e3 : ceC (fndN L sh : Int) 1 At N s c = c := by unfold ceC; exact if_neg (fun q => hsk q.2.2)
      have e4 : ceB (fndN L sh : Int) 1 At N s r c = true := by unfold ceB; rw [if_neg (fun q => hsk q.2), if_neg (fun q => hsk q.2.2)]; rfl
      rw [e1, e2, e3, e4]
      exact H
  · have hs := chk_span hc (by omega)
    unfold limF at hs
    rw [if_pos (by decide)] at hs
    by_cases hsk : s = (fndN L sh : Int)
    · have H := cellMoved_2on ao cap L sh At N nm s r c w h hl hsk (by omega) (by omega) (by omega) (by omega) (by omega) (by omega)
      have e1 : ceS (fndN L sh : Int) 2 At s = s := rfl
      have e2 : ceR (fndN L sh : Int) 2 At N s r = movI At N false r := by unfold ceR; rw [if_pos ⟨by decide, hsk⟩]; rfl
      have e3 : ceC (fndN L sh : Int) 2 At N s c = c := by unfold ceC; rw [if_neg (by omega)]
      have e4 : ceB (fndN L sh : Int) 2 At N s r c = movB At N 1048576 false r := by unfold ceB; rw [if_pos ⟨by decide, hsk⟩]; rfl
      rw [e1, e2, e3, e4]
      exact H
    · have H := cellMoved_2off ao cap L sh At N nm s r c w h hl hsk
      have e1 : ceS (fndN L sh : Int) 2 At s = s := rfl
      have e2 : ceR (fndN L sh : Int) 2 At N s r = r := by unfold ceR; exact if_neg (fun q => hsk q.2)
      have e3 : ceC (fndN L sh : Int) 2 At N s c = c := by unfold ceC; exact if_neg (fun q => hsk q.2.2)
      have e4 : ceB (fndN L sh : Int) 2 At N s r c = true := by unfold ceB; rw [if_neg (fun q => hsk q.2), if_neg (fun q => hsk q.2.2)]; rfl
      rw [e1, e2, e3, e4]
      exact H
  · have hs := chk_span hc (by omega)
    unfold limF at hs
    rw [if_neg (by decide)] at hs
    by_cases hsk : s = (fndN L sh : Int)
    · have H := cellMoved_3on ao cap L sh At N nm s r c w h hl hsk (by omega) (by omega) (by omega) (by omega) (by omega) (by omega)
      have e1 : ceS (fndN L sh : Int) 3 At s = s := rfl
      have e2 : ceR (fndN L sh : Int) 3 At N s r = r := by unfold ceR; rw [if_neg (by omega)]
      have e3 : ceC (fndN L sh : Int) 3 At N s c = movI At N true c := by unfold ceC; rw [if_pos ⟨by decide, by decide, hsk⟩]; rfl
      have e4 : ceB (fndN L sh : Int) 3 At N s r c = movB At N 1024 true c := by unfold ceB; rw [if_neg (by omega), if_pos ⟨by decide, by decide, hsk⟩]; rfl
      rw [e1, e2, e3, e4]
      exact H
    · have H := cellMoved_3off ao cap L sh At N nm s r c w h hl hsk
      have e1 : ceS (fndN L sh : Int) 3 At s = s := rfl
      have e2 : ceR (fndN L sh : Int) 3 At N s r = r := by unfold ceR; exact if_neg (fun q => hsk q.2)
      have e3 : ceC (fndN L sh : Int) 3 At N s c = c := by unfold ceC; exact if_neg (fun q => hsk q.2.2)
      have e4 : ceB (fndN L sh : Int) 3 At N s r c = true := by unfold ceB; rw [if_neg (fun q => hsk q.2), if_neg (fun q => hsk q.2.2)]; rfl
      rw [e1, e2, e3, e4]
      exact H
  · have hs := chk_span hc (by omega)
    unfold limF at hs
    rw [if_neg (by decide)] at hs
    by_cases hsk : s = (fndN L sh : Int)
    · have H := cellMoved_4on ao cap L sh At N nm s r c w h hl hsk (by omega) (by omega) (by omega) (by omega) (by omega) (by omega)
      have e1 : ceS (fndN L sh : Int) 4 At s = s := rfl
      have e2 : ceR (fndN L sh : Int) 4 At N s r = r := by unfold ceR; rw [if_neg (by omega)]
      have e3 : ceC (fndN L sh : Int) 4 At N s c = movI At N false c := by unfold ceC; rw [if_pos ⟨by decide, by decide, hsk⟩]; rfl
      have e4 : ceB (fndN L sh : Int) 4 At N s r c = movB At N 1024 false c := by unfold ceB; rw [if_neg (by omega), if_pos ⟨by decide, by decide, hsk⟩]; rfl
      rw [e1, e2, e3, e4]
      exact H
    · have H := cellMoved_4off ao cap L sh At N nm s r c w h hl hsk
      have e1 : ceS (fndN L sh : Int) 4 At s = s := rfl
      have e2 : ceR (fndN L sh : Int) 4 At N s r = r := by unfold ceR; exact if_neg (fun q => hsk q.2)
      have e3 : ceC (fndN L sh : Int) 4 At N s c = c := by unfold ceC; exact if_neg (fun q => hsk q.2.2)
      have e4 : ceB (fndN L sh : Int) 4 At N s r c = true := by unfold ceB; rw [if_neg (fun q => hsk q.2), if_neg (fun q => hsk q.2.2)]; rfl
      rw [e1, e2, e3, e4]
      exact H
  · have H := cellMoved_5 ao cap L sh At N nm s r c w h hl (by omega) (by omega)
    have e2 : ceR (fndN L sh : Int) 5 At N s r = r := by unfold ceR; exact if_neg (by omega)
    have e3 : ceC (fndN L sh : Int) 5 At N s c = c := by unfold ceC; exact if_neg (by omega)
    have e4 : ceB (fndN L sh : Int) 5 At N s r c = true := by unfold ceB; rw [if_neg (by omega), if_neg (by omega)]; rfl
    rw [e2, e3, e4]
    exact H
  · have H := cellMoved_6 ao cap L sh At N nm s r c w h hl (by omega) (by omega)
    have e2 : ceR (fndN L sh : Int) 6 At N s r = r := by unfold ceR; exact if_neg (by omega)
    have e3 : ceC (fndN L sh : Int) 6 At N s c = c := by unfold ceC; exact if_neg (by omega)
    have e4 : ceB (fndN L sh : Int) 6 At N s r c = !decide (s = (fndN L sh : Int)) := by unfold ceB; rw [if_neg (by omega), if_neg (by omega)]; rfl
    rw [e2, e3, e4]
    exact H
  · have H := cellMoved_7 ao cap L sh At N nm s r c w h hl (by omega) (by omega)
    have e2 : ceR (fndN L sh : Int) 7 At N s r = r := by unfold ceR; exact if_neg (by omega)
    have e3 : ceC (fndN L sh : Int) 7 At N s c = c := by unfold ceC; exact if_neg (by omega)
    have e4 : ceB (fndN L sh : Int) 7 At N s r c = true := by unfold ceB; rw [if_neg (by omega), if_neg (by omega)]; rfl
    rw [e2, e3, e4]
    exact H
  · have H := cellMoved_8 ao cap L sh At N nm s r c w h hl (by omega) (by omega)
    have e2 : ceR (fndN L sh : Int) 8 At N s r = r := by unfold ceR; exact if_neg (by omega)
    have e3 : ceC (fndN L sh : Int) 8 At N s c = c := by unfold ceC; exact if_neg (by omega)
    have e4 : ceB (fndN L sh : Int) 8 At N s r c = true := by unfold ceB; rw [if_neg (by omega), if_neg (by omega)]; rfl
    rw [e2, e3, e4]
    exact H
set_option maxRecDepth 100000 in
set_option maxHeartbeats 1000000 in
theorem pcell_no (ao : Option Addr) (cap : Nat) (L : List ByteArray) (K : Int) (sh : ByteArray) (At N : Int) (nm : ByteArray) (s r c : Int) (w : World) (h : SsAt w ao L) (hl : L.length ≤ 140737488355328) (hN : N ≤ 9223372036854775807) (hc : ¬ chkS L K sh At N nm = 0) :
    Calls Tryd.prog 17 #[.slice ao L.length cap, .agg #[.int .i64 K, .string sh, .int .i64 At, .int .i64 N, .string nm], .agg #[.int .i64 s, .int .i64 r, .int .i64 c]] w fun e w' => e = .returned (.tuple #[.agg #[.int .i64 0, .int .i64 0, .int .i64 0], .bool false]) ∧ Fr noB w w' := by
  have HC : Hid (∀ W, Fr noB w W → Calls Tryd.prog 12 #[.slice ao L.length cap, .agg #[.int .i64 K, .string sh, .int .i64 At, .int .i64 N, .string nm]] W fun e w' => e = .returned (.int .i64 (chkS L K sh At N nm)) ∧ Fr noB W w') := fun W hF => check_all ao cap L K sh At N nm W (h.keep hF) hl hN
  have HI := isCell_any L.length s r c
  obtain ⟨W0, hW0⟩ : ∃ W0, ((w.alloc (.cells #[.int .i64 K, .string sh, .int .i64 At, .int .i64 N, .string nm] 24 (0, 0))).alloc (.cells #[.int .i64 s, .int .i64 r, .int .i64 c] 38 (0, 0))).alloc (.cells #[.int .i64 0, .int .i64 0, .int .i64 0] 38 (0, 0)) = W0 := ⟨_, rfl⟩
  have hX : XAt W0 w.heap.size K sh At N nm := by rw [← hW0]; exact ⟨old1 (old1 (heap_alloc_new w _))⟩
  have hA : AAt W0 (w.heap.size + 1) s r c := by rw [← hW0]; exact ⟨old1 (new1 _ _ _ (by simp))⟩
  have hO : AAt W0 (w.heap.size + 1 + 1) 0 0 0 := by rw [← hW0]; exact ⟨new1 _ _ _ (by simp)⟩
  have hF0 : Fr noB w W0 := by rw [← hW0]; exact (((Fr.refl noB w).alloc _).alloc _).alloc _
  have a0 := hX.c0; have a1 := hX.c1; have a2 := hX.c2; have a3 := hX.c3; have a4 := hX.c4
  have HH : Hid _ := And.intro hX (And.intro hA (And.intro hO hF0))
  clear hX hA hO hF0 h hl
  generalize chkS L K sh At N nm = v at *
  generalize L.length = l at *
  have hv : (v != 0) = true := by simpa using hc
  clear hc
  go_enter Tryd.func17, Tryd.ntmps17
  go_wp2_with (go_at_call 12; refine (HC.out _ HH.out.2.2.2).mono ?_; rintro e w1 ⟨rfl, hF1⟩; have gX := HH.out.1.fr hF1; have gx0 := gX.c0; have gx1 := gX.c1; have gx2 := gX.c2; have gx3 := gX.c3; have gx4 := gX.c4; have gA := HH.out.2.1.fr hF1; have ga0 := gA.c0; have ga1 := gA.c1; have ga2 := gA.c2; have gO := HH.out.2.2.1.fr hF1; have go0 := gO.c0; have go1 := gO.c1; have go2 := gO.c2; have gf0 := gO.f 0; have gf1 := gO.f 1; have gf2 := gO.f 2; have HF1 : Hid _ := hF1; clear hF1 gX gA gO)
  obtain ⟨W, hW⟩ : ∃ W, (((w1).setCell ⟨w.heap.size + 1 + 1, 0, none⟩ (.int .i64 0)).setCell ⟨w.heap.size + 1 + 1, 1, none⟩ (.int .i64 0)).setCell ⟨w.heap.size + 1 + 1, 2, none⟩ (.int .i64 0) = W := ⟨_, rfl⟩
  have p : W.heap[w.heap.size + 1 + 1]? = some (.cells #[.int .i64 0, .int .i64 0, .int .i64 0] 38 (0, 0)) := by
    rw [← hW]
    exact setOf 2 _ (setOf 1 _ (setOf 0 _ (HH.out.2.2.1.fr HF1.out).o))
  have p0 := cellOf (o := 0) p rfl
  have p1 := cellOf (o := 1) p rfl
  have p2 := cellOf (o := 2) p rfl
  have hFW : Fr noB w W := by
    rw [← hW]
    exact (((HH.out.2.2.2.trans HF1.out).setCell ⟨w.heap.size + 1 + 1, 0, none⟩ (Or.inr (by show w.heap.size ≤ w.heap.size + 1 + 1; omega)) _).setCell ⟨w.heap.size + 1 + 1, 1, none⟩ (Or.inr (by show w.heap.size ≤ w.heap.size + 1 + 1; omega)) _).setCell ⟨w.heap.size + 1 + 1, 2, none⟩ (Or.inr (by show w.heap.size ≤ w.heap.size + 1 + 1; omega)) _
  try rw [hW]
  refine bodyPost_ret ?_ rfl ⟨rfl, hFW⟩
  simp [results, Tryd.results17, go_sem, p0, p1, p2]
set_option maxRecDepth 100000 in
set_option maxHeartbeats 1000000 in
theorem pcell_not (ao : Option Addr) (cap : Nat) (L : List ByteArray) (K : Int) (sh : ByteArray) (At N : Int) (nm : ByteArray) (s r c : Int) (w : World) (h : SsAt w ao L) (hl : L.length ≤ 140737488355328) (hN : N ≤ 9223372036854775807) (hc : chkS L K sh At N nm = 0) (hi : inB L.length s r c = false) :
    Calls Tryd.prog 17 #[.slice ao L.length cap, .agg #[.int .i64 K, .string sh, .int .i64 At, .int .i64 N, .string nm], .agg #[.int .i64 s, .int .i64 r, .int .i64 c]] w fun e w' => e = .returned (.tuple #[.agg #[.int .i64 0, .int .i64 0, .int .i64 0], .bool false]) ∧ Fr noB w w' := by
  have HC : Hid (∀ W, Fr noB w W → Calls Tryd.prog 12 #[.slice ao L.length cap, .agg #[.int .i64 K, .string sh, .int .i64 At, .int .i64 N, .string nm]] W fun e w' => e = .returned (.int .i64 (chkS L K sh At N nm)) ∧ Fr noB W w') := fun W hF => check_all ao cap L K sh At N nm W (h.keep hF) hl hN
  have HI := isCell_any L.length s r c
  rw [hc] at HC
  rw [hi] at HI
  obtain ⟨W0, hW0⟩ : ∃ W0, ((w.alloc (.cells #[.int .i64 K, .string sh, .int .i64 At, .int .i64 N, .string nm] 24 (0, 0))).alloc (.cells #[.int .i64 s, .int .i64 r, .int .i64 c] 38 (0, 0))).alloc (.cells #[.int .i64 0, .int .i64 0, .int .i64 0] 38 (0, 0)) = W0 := ⟨_, rfl⟩
  have hX : XAt W0 w.heap.size K sh At N nm := by rw [← hW0]; exact ⟨old1 (old1 (heap_alloc_new w _))⟩
  have hA : AAt W0 (w.heap.size + 1) s r c := by rw [← hW0]; exact ⟨old1 (new1 _ _ _ (by simp))⟩
  have hO : AAt W0 (w.heap.size + 1 + 1) 0 0 0 := by rw [← hW0]; exact ⟨new1 _ _ _ (by simp)⟩
  have hF0 : Fr noB w W0 := by rw [← hW0]; exact (((Fr.refl noB w).alloc _).alloc _).alloc _
  have a0 := hX.c0; have a1 := hX.c1; have a2 := hX.c2; have a3 := hX.c3; have a4 := hX.c4
  have HH : Hid _ := And.intro hX (And.intro hA (And.intro hO hF0))
  clear hX hA hO hF0 h hl hc hi
  generalize L.length = l at *
  go_enter Tryd.func17, Tryd.ntmps17
  go_wp2_with (first
    | (go_at_call 12; refine (HC.out _ HH.out.2.2.2).mono ?_; rintro e w1 ⟨rfl, hF1⟩; have gX := HH.out.1.fr hF1; have gx0 := gX.c0; have gx1 := gX.c1; have gx2 := gX.c2; have gx3 := gX.c3; have gx4 := gX.c4; have gA := HH.out.2.1.fr hF1; have ga0 := gA.c0; have ga1 := gA.c1; have ga2 := gA.c2; have gO := HH.out.2.2.1.fr hF1; have go0 := gO.c0; have go1 := gO.c1; have go2 := gO.c2; have gf0 := gO.f 0; have gf1 := gO.f 1; have gf2 := gO.f 2; have HF1 : Hid _ := hF1; clear hF1 gX gA gO)
    | (go_at_call 36; refine (HI _).mono ?_; rintro e w2 ⟨rfl, hF2⟩; have hG2 := HF1.out.trans hF2; have kX := HH.out.1.fr hG2; have kx0 := kX.c0; have kx1 := kX.c1; have kx2 := kX.c2; have kx3 := kX.c3; have kx4 := kX.c4; have kA := HH.out.2.1.fr hG2; have ka0 := kA.c0; have ka1 := kA.c1; have ka2 := kA.c2; have kO := HH.out.2.2.1.fr hG2; have ko0 := kO.c0; have ko1 := kO.c1; have ko2 := kO.c2; have kf0 := kO.f 0; have kf1 := kO.f 1; have kf2 := kO.f 2; have HF2 : Hid _ := hG2; clear hF2 hG2 kX kA kO))
  obtain ⟨W, hW⟩ : ∃ W, (((w2).setCell ⟨w.heap.size + 1 + 1, 0, none⟩ (.int .i64 0)).setCell ⟨w.heap.size + 1 + 1, 1, none⟩ (.int .i64 0)).setCell ⟨w.heap.size + 1 + 1, 2, none⟩ (.int .i64 0) = W := ⟨_, rfl⟩
  have p : W.heap[w.heap.size + 1 + 1]? = some (.cells #[.int .i64 0, .int .i64 0, .int .i64 0] 38 (0, 0)) := by
    rw [← hW]
    exact setOf 2 _ (setOf 1 _ (setOf 0 _ (HH.out.2.2.1.fr HF2.out).o))
  have p0 := cellOf (o := 0) p rfl
  have p1 := cellOf (o := 1) p rfl
  have p2 := cellOf (o := 2) p rfl
  have hFW : Fr noB w W := by
    rw [← hW]
    exact (((HH.out.2.2.2.trans HF2.out).setCell ⟨w.heap.size + 1 + 1, 0, none⟩ (Or.inr (by show w.heap.size ≤ w.heap.size + 1 + 1; omega)) _).setCell ⟨w.heap.size + 1 + 1, 1, none⟩ (Or.inr (by show w.heap.size ≤ w.heap.size + 1 + 1; omega)) _).setCell ⟨w.heap.size + 1 + 1, 2, none⟩ (Or.inr (by show w.heap.size ≤ w.heap.size + 1 + 1; omega)) _
  try rw [hW]
  refine bodyPost_ret ?_ rfl ⟨rfl, hFW⟩
  simp [results, Tryd.results17, go_sem, p0, p1, p2]
set_option maxRecDepth 100000 in
set_option maxHeartbeats 1000000 in
theorem pcell_goes (ao : Option Addr) (cap : Nat) (L : List ByteArray) (K : Int) (sh : ByteArray) (At N : Int) (nm : ByteArray) (s r c : Int) (w : World) (h : SsAt w ao L) (hl : L.length ≤ 140737488355328) (hN : N ≤ 9223372036854775807) (hc : chkS L K sh At N nm = 0) (hi : inB L.length s r c = true) (hb : ceB (fndN L sh : Int) K At N s r c = false) :
    Calls Tryd.prog 17 #[.slice ao L.length cap, .agg #[.int .i64 K, .string sh, .int .i64 At, .int .i64 N, .string nm], .agg #[.int .i64 s, .int .i64 r, .int .i64 c]] w fun e w' => e = .returned (.tuple #[.agg #[.int .i64 0, .int .i64 0, .int .i64 0], .bool false]) ∧ Fr noB w w' := by
  have HC : Hid (∀ W, Fr noB w W → Calls Tryd.prog 12 #[.slice ao L.length cap, .agg #[.int .i64 K, .string sh, .int .i64 At, .int .i64 N, .string nm]] W fun e w' => e = .returned (.int .i64 (chkS L K sh At N nm)) ∧ Fr noB W w') := fun W hF => check_all ao cap L K sh At N nm W (h.keep hF) hl hN
  have HI := isCell_any L.length s r c
  have HM : Hid (∀ W, Fr noB w W → Calls Tryd.prog 37 #[.slice ao L.length cap, .agg #[.int .i64 K, .string sh, .int .i64 At, .int .i64 N, .string nm], .agg #[.int .i64 s, .int .i64 r, .int .i64 c]] W fun e w' => e = .returned (.tuple #[.agg #[.int .i64 (ceS (fndN L sh : Int) K At s), .int .i64 (ceR (fndN L sh : Int) K At N s r), .int .i64 (ceC (fndN L sh : Int) K At N s c)], .bool false]) ∧ Fr noB W w') := fun W hF => by have := cellMoved_all ao cap L K sh At N nm s r c W (h.keep hF) hl hc hi; rw [hb] at this; exact this
  rw [hc] at HC
  rw [hi] at HI
  obtain ⟨W0, hW0⟩ : ∃ W0, ((w.alloc (.cells #[.int .i64 K, .string sh, .int .i64 At, .int .i64 N, .string nm] 24 (0, 0))).alloc (.cells #[.int .i64 s, .int .i64 r, .int .i64 c] 38 (0, 0))).alloc (.cells #[.int .i64 0, .int .i64 0, .int .i64 0] 38 (0, 0)) = W0 := ⟨_, rfl⟩
  have hX : XAt W0 w.heap.size K sh At N nm := by rw [← hW0]; exact ⟨old1 (old1 (heap_alloc_new w _))⟩
  have hA : AAt W0 (w.heap.size + 1) s r c := by rw [← hW0]; exact ⟨old1 (new1 _ _ _ (by simp))⟩
  have hO : AAt W0 (w.heap.size + 1 + 1) 0 0 0 := by rw [← hW0]; exact ⟨new1 _ _ _ (by simp)⟩
  have hF0 : Fr noB w W0 := by rw [← hW0]; exact (((Fr.refl noB w).alloc _).alloc _).alloc _
  have a0 := hX.c0; have a1 := hX.c1; have a2 := hX.c2; have a3 := hX.c3; have a4 := hX.c4
  have HH : Hid _ := And.intro hX (And.intro hA (And.intro hO hF0))
  clear hX hA hO hF0 h hl hc hi hb
  generalize ceS (fndN L sh : Int) K At s = qs at *
  generalize ceR (fndN L sh : Int) K At N s r = qr at *
  generalize ceC (fndN L sh : Int) K At N s c = qc at *
  generalize L.length = l at *
  go_enter Tryd.func17, Tryd.ntmps17
  go_wp2_with (first
    | (go_at_call 12; refine (HC.out _ HH.out.2.2.2).mono ?_; rintro e w1 ⟨rfl, hF1⟩; have gX := HH.out.1.fr hF1; have gx0 := gX.c0; have gx1 := gX.c1; have gx2 := gX.c2; have gx3 := gX.c3; have gx4 := gX.c4; have gA := HH.out.2.1.fr hF1; have ga0 := gA.c0; have ga1 := gA.c1; have ga2 := gA.c2; have gO := HH.out.2.2.1.fr hF1; have go0 := gO.c0; have go1 := gO.c1; have go2 := gO.c2; have gf0 := gO.f 0; have gf1 := gO.f 1; have gf2 := gO.f 2; have HF1 : Hid _ := hF1; clear hF1 gX gA gO)
    | (go_at_call 36; refine (HI _).mono ?_; rintro e w2 ⟨rfl, hF2⟩; have hG2 := HF1.out.trans hF2; have kX := HH.out.1.fr hG2; have kx0 := kX.c0; have kx1 := kX.c1; have kx2 := kX.c2; have kx3 := kX.c3; have kx4 := kX.c4; have kA := HH.out.2.1.fr hG2; have ka0 := kA.c0; have ka1 := kA.c1; have ka2 := kA.c2; have kO := HH.out.2.2.1.fr hG2; have ko0 := kO.c0; have ko1 := kO.c1; have ko2 := kO.c2; have kf0 := kO.f 0; have kf1 := kO.f 1; have kf2 := kO.f 2; have HF2 : Hid _ := hG2; clear hF2 hG2 kX kA kO)
    | (go_at_call 37; refine (HM.out _ (HH.out.2.2.2.trans HF2.out)).mono ?_; rintro e w3 ⟨rfl, hF3⟩; have hG3 : Fr noB W0 (w3.alloc (.cells #[.int .i64 qs, .int .i64 qr, .int .i64 qc] 38 (0, 0))) := (HF2.out.trans hF3).alloc _; have mX := HH.out.1.fr hG3; have mx0 := mX.c0; have mx1 := mX.c1; have mx2 := mX.c2; have mx3 := mX.c3; have mx4 := mX.c4; have mA := HH.out.2.1.fr hG3; have ma0 := mA.c0; have ma1 := mA.c1; have ma2 := mA.c2; have mO := HH.out.2.2.1.fr hG3; have mo0 := mO.c0; have mo1 := mO.c1; have mo2 := mO.c2; have mf0 := mO.f 0; have mf1 := mO.f 1; have mf2 := mO.f 2; have hR : AAt (w3.alloc (.cells #[.int .i64 qs, .int .i64 qr, .int .i64 qc] 38 (0, 0))) w3.heap.size qs qr qc := ⟨heap_alloc_new w3 _⟩; have r0 := hR.c0; have r1 := hR.c1; have r2 := hR.c2; have HF3 : Hid _ := hG3; clear hF3 hG3 mX mA mO hR))
  obtain ⟨W, hW⟩ : ∃ W, (((w3.alloc (.cells #[.int .i64 qs, .int .i64 qr, .int .i64 qc] 38 (0, 0))).setCell ⟨w.heap.size + 1 + 1, 0, none⟩ (.int .i64 0)).setCell ⟨w.heap.size + 1 + 1, 1, none⟩ (.int .i64 0)).setCell ⟨w.heap.size + 1 + 1, 2, none⟩ (.int .i64 0) = W := ⟨_, rfl⟩
  have p : W.heap[w.heap.size + 1 + 1]? = some (.cells #[.int .i64 0, .int .i64 0, .int .i64 0] 38 (0, 0)) := by
    rw [← hW]
    exact setOf 2 _ (setOf 1 _ (setOf 0 _ (HH.out.2.2.1.fr HF3.out).o))
  have p0 := cellOf (o := 0) p rfl
  have p1 := cellOf (o := 1) p rfl
  have p2 := cellOf (o := 2) p rfl
  have hFW : Fr noB w W := by
    rw [← hW]
    exact (((HH.out.2.2.2.trans HF3.out).setCell ⟨w.heap.size + 1 + 1, 0, none⟩ (Or.inr (by show w.heap.size ≤ w.heap.size + 1 + 1; omega)) _).setCell ⟨w.heap.size + 1 + 1, 1, none⟩ (Or.inr (by show w.heap.size ≤ w.heap.size + 1 + 1; omega)) _).setCell ⟨w.heap.size + 1 + 1, 2, none⟩ (Or.inr (by show w.heap.size ≤ w.heap.size + 1 + 1; omega)) _
  try rw [hW]
  refine bodyPost_ret ?_ rfl ⟨rfl, hFW⟩
  simp [results, Tryd.results17, go_sem, p0, p1, p2]
set_option maxRecDepth 100000 in
set_option maxHeartbeats 1000000 in
theorem pcell_stays (ao : Option Addr) (cap : Nat) (L : List ByteArray) (K : Int) (sh : ByteArray) (At N : Int) (nm : ByteArray) (s r c : Int) (w : World) (h : SsAt w ao L) (hl : L.length ≤ 140737488355328) (hN : N ≤ 9223372036854775807) (hc : chkS L K sh At N nm = 0) (hi : inB L.length s r c = true) (hb : ceB (fndN L sh : Int) K At N s r c = true) :
    Calls Tryd.prog 17 #[.slice ao L.length cap, .agg #[.int .i64 K, .string sh, .int .i64 At, .int .i64 N, .string nm], .agg #[.int .i64 s, .int .i64 r, .int .i64 c]] w fun e w' => e = .returned (.tuple #[.agg #[.int .i64 (ceS (fndN L sh : Int) K At s), .int .i64 (ceR (fndN L sh : Int) K At N s r), .int .i64 (ceC (fndN L sh : Int) K At N s c)], .bool true]) ∧ Fr noB w w' := by
  have HC : Hid (∀ W, Fr noB w W → Calls Tryd.prog 12 #[.slice ao L.length cap, .agg #[.int .i64 K, .string sh, .int .i64 At, .int .i64 N, .string nm]] W fun e w' => e = .returned (.int .i64 (chkS L K sh At N nm)) ∧ Fr noB W w') := fun W hF => check_all ao cap L K sh At N nm W (h.keep hF) hl hN
  have HI := isCell_any L.length s r c
  have HM : Hid (∀ W, Fr noB w W → Calls Tryd.prog 37 #[.slice ao L.length cap, .agg #[.int .i64 K, .string sh, .int .i64 At, .int .i64 N, .string nm], .agg #[.int .i64 s, .int .i64 r, .int .i64 c]] W fun e w' => e = .returned (.tuple #[.agg #[.int .i64 (ceS (fndN L sh : Int) K At s), .int .i64 (ceR (fndN L sh : Int) K At N s r), .int .i64 (ceC (fndN L sh : Int) K At N s c)], .bool true]) ∧ Fr noB W w') := fun W hF => by have := cellMoved_all ao cap L K sh At N nm s r c W (h.keep hF) hl hc hi; rw [hb] at this; exact this
  rw [hc] at HC
  rw [hi] at HI
  obtain ⟨W0, hW0⟩ : ∃ W0, ((w.alloc (.cells #[.int .i64 K, .string sh, .int .i64 At, .int .i64 N, .string nm] 24 (0, 0))).alloc (.cells #[.int .i64 s, .int .i64 r, .int .i64 c] 38 (0, 0))).alloc (.cells #[.int .i64 0, .int .i64 0, .int .i64 0] 38 (0, 0)) = W0 := ⟨_, rfl⟩
  have hX : XAt W0 w.heap.size K sh At N nm := by rw [← hW0]; exact ⟨old1 (old1 (heap_alloc_new w _))⟩
  have hA : AAt W0 (w.heap.size + 1) s r c := by rw [← hW0]; exact ⟨old1 (new1 _ _ _ (by simp))⟩
  have hO : AAt W0 (w.heap.size + 1 + 1) 0 0 0 := by rw [← hW0]; exact ⟨new1 _ _ _ (by simp)⟩
  have hF0 : Fr noB w W0 := by rw [← hW0]; exact (((Fr.refl noB w).alloc _).alloc _).alloc _
  have a0 := hX.c0; have a1 := hX.c1; have a2 := hX.c2; have a3 := hX.c3; have a4 := hX.c4
  have HH : Hid _ := And.intro hX (And.intro hA (And.intro hO hF0))
  clear hX hA hO hF0 h hl hc hi hb
  generalize ceS (fndN L sh : Int) K At s = qs at *
  generalize ceR (fndN L sh : Int) K At N s r = qr at *
  generalize ceC (fndN L sh : Int) K At N s c = qc at *
  generalize L.length = l at *
  go_enter Tryd.func17, Tryd.ntmps17
  go_wp2_with (first
    | (go_at_call 12; refine (HC.out _ HH.out.2.2.2).mono ?_; rintro e w1 ⟨rfl, hF1⟩; have gX := HH.out.1.fr hF1; have gx0 := gX.c0; have gx1 := gX.c1; have gx2 := gX.c2; have gx3 := gX.c3; have gx4 := gX.c4; have gA := HH.out.2.1.fr hF1; have ga0 := gA.c0; have ga1 := gA.c1; have ga2 := gA.c2; have gO := HH.out.2.2.1.fr hF1; have go0 := gO.c0; have go1 := gO.c1; have go2 := gO.c2; have gf0 := gO.f 0; have gf1 := gO.f 1; have gf2 := gO.f 2; have HF1 : Hid _ := hF1; clear hF1 gX gA gO)
    | (go_at_call 36; refine (HI _).mono ?_; rintro e w2 ⟨rfl, hF2⟩; have hG2 := HF1.out.trans hF2; have kX := HH.out.1.fr hG2; have kx0 := kX.c0; have kx1 := kX.c1; have kx2 := kX.c2; have kx3 := kX.c3; have kx4 := kX.c4; have kA := HH.out.2.1.fr hG2; have ka0 := kA.c0; have ka1 := kA.c1; have ka2 := kA.c2; have kO := HH.out.2.2.1.fr hG2; have ko0 := kO.c0; have ko1 := kO.c1; have ko2 := kO.c2; have kf0 := kO.f 0; have kf1 := kO.f 1; have kf2 := kO.f 2; have HF2 : Hid _ := hG2; clear hF2 hG2 kX kA kO)
    | (go_at_call 37; refine (HM.out _ (HH.out.2.2.2.trans HF2.out)).mono ?_; rintro e w3 ⟨rfl, hF3⟩; have hG3 : Fr noB W0 (w3.alloc (.cells #[.int .i64 qs, .int .i64 qr, .int .i64 qc] 38 (0, 0))) := (HF2.out.trans hF3).alloc _; have mX := HH.out.1.fr hG3; have mx0 := mX.c0; have mx1 := mX.c1; have mx2 := mX.c2; have mx3 := mX.c3; have mx4 := mX.c4; have mA := HH.out.2.1.fr hG3; have ma0 := mA.c0; have ma1 := mA.c1; have ma2 := mA.c2; have mO := HH.out.2.2.1.fr hG3; have mo0 := mO.c0; have mo1 := mO.c1; have mo2 := mO.c2; have mf0 := mO.f 0; have mf1 := mO.f 1; have mf2 := mO.f 2; have hR : AAt (w3.alloc (.cells #[.int .i64 qs, .int .i64 qr, .int .i64 qc] 38 (0, 0))) w3.heap.size qs qr qc := ⟨heap_alloc_new w3 _⟩; have r0 := hR.c0; have r1 := hR.c1; have r2 := hR.c2; have HF3 : Hid _ := hG3; clear hF3 hG3 mX mA mO hR))
  obtain ⟨W, hW⟩ : ∃ W, (((w3.alloc (.cells #[.int .i64 qs, .int .i64 qr, .int .i64 qc] 38 (0, 0))).setCell ⟨w.heap.size + 1 + 1, 0, none⟩ (.int .i64 qs)).setCell ⟨w.heap.size + 1 + 1, 1, none⟩ (.int .i64 qr)).setCell ⟨w.heap.size + 1 + 1, 2, none⟩ (.int .i64 qc) = W := ⟨_, rfl⟩
  have p : W.heap[w.heap.size + 1 + 1]? = some (.cells #[.int .i64 qs, .int .i64 qr, .int .i64 qc] 38 (0, 0)) := by
    rw [← hW]
    exact setOf 2 _ (setOf 1 _ (setOf 0 _ (HH.out.2.2.1.fr HF3.out).o))
  have p0 := cellOf (o := 0) p rfl
  have p1 := cellOf (o := 1) p rfl
  have p2 := cellOf (o := 2) p rfl
  have hFW : Fr noB w W := by
    rw [← hW]
    exact (((HH.out.2.2.2.trans HF3.out).setCell ⟨w.heap.size + 1 + 1, 0, none⟩ (Or.inr (by show w.heap.size ≤ w.heap.size + 1 + 1; omega)) _).setCell ⟨w.heap.size + 1 + 1, 1, none⟩ (Or.inr (by show w.heap.size ≤ w.heap.size + 1 + 1; omega)) _).setCell ⟨w.heap.size + 1 + 1, 2, none⟩ (Or.inr (by show w.heap.size ≤ w.heap.size + 1 + 1; omega)) _
  try rw [hW]
  refine bodyPost_ret ?_ rfl ⟨rfl, hFW⟩
  simp [results, Tryd.results17, go_sem, p0, p1, p2]
/-- Cell of the program. -/
theorem pcell_any (ao : Option Addr) (cap : Nat) (L : List ByteArray) (K : Int) (sh : ByteArray) (At N : Int) (nm : ByteArray) (s r c : Int) (w : World) (h : SsAt w ao L) (hl : L.length ≤ 140737488355328) (hN : N ≤ 9223372036854775807) :
    Calls Tryd.prog 17 #[.slice ao L.length cap, .agg #[.int .i64 K, .string sh, .int .i64 At, .int .i64 N, .string nm], .agg #[.int .i64 s, .int .i64 r, .int .i64 c]] w fun e w' => e = .returned (celV L K sh At N nm s r c) ∧ Fr noB w w' := by
  unfold celV remB
  by_cases hc : chkS L K sh At N nm = 0
  case neg =>
    rw [decide_eq_false hc, if_neg (by simp)]
    exact pcell_no ao cap L K sh At N nm s r c w h hl hN hc
  rw [decide_eq_true hc, Bool.true_and]
  cases hi : inB L.length s r c with
  | false => rw [Bool.false_and, if_neg (by simp)]; exact pcell_not ao cap L K sh At N nm s r c w h hl hN hc hi
  | true =>
    rw [Bool.true_and]
    cases hb : ceB (fndN L sh : Int) K At N s r c with
    | false => rw [if_neg (by simp)]; exact pcell_goes ao cap L K sh At N nm s r c w h hl hN hc hi hb
    | true => rw [if_pos rfl]; exact pcell_stays ao cap L K sh At N nm s r c w h hl hN hc hi hb
#print axioms pcell_any
end Go.Proofs.YthokhnbecgkpbaaDoor
