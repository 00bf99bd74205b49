/- The errors' texts, of both sides (out of value's texts). -/
import Derived.Test.YtkohohjpnlhioaaGreatDoorK32
import Derived.Test.YtkohohjpnlhioaaGreatDoorK34
namespace Go.Proofs.YtkohohjpnlhioaaGreatDoor
open Go.RowKit Go.Shelf

def errL : List ByteArray := [⟨#[35, 78, 85, 76, 76, 33]⟩, ⟨#[35, 68, 73, 86, 47, 48, 33]⟩, ⟨#[35, 86, 65, 76, 85, 69, 33]⟩, ⟨#[35, 82, 69, 70, 33]⟩, ⟨#[35, 78, 65, 77, 69, 63]⟩, ⟨#[35, 78, 85, 77, 33]⟩, ⟨#[35, 78, 47, 65]⟩, ⟨#[35, 67, 89, 67, 76, 69, 33]⟩, ⟨#[35, 76, 73, 77, 73, 84, 33]⟩]
/-- The program's table of them lies where it should. -/
def EvTab (w : World) : Prop := 1 < w.heap.size ∧ ∀ i, i < 9 → w.cell? ⟨1, i, none⟩ = some (.string (errL.getD i ⟨#[]⟩))
theorem EvTab.fr {w w' : World} (h : EvTab w) (hF : Fr noB w w') : EvTab w' := ⟨Nat.lt_of_lt_of_le h.1 hF.size, fun i hi => (hF.cell (a := ⟨1, i, none⟩) h.1 id).trans (h.2 i hi)⟩
theorem EvTab.cell {w : World} (h : EvTab w) (i : Nat) (hi : i < 9) : w.cell? ⟨1, i, none⟩ = some (.string (errL.getD i ⟨#[]⟩)) := h.2 i hi
def eT (c : Int) : ByteArray := if 1 ≤ c ∧ c ≤ 9 then errL.getD (c - 1).toNat ⟨#[]⟩ else ⟨#[]⟩
set_option maxRecDepth 100000 in
theorem isCode_any (c : Int) (w : World) : Calls Tryz.prog 63 #[.int .i64 c] w fun e w' => e = .returned (.bool (decide (1 ≤ c ∧ c ≤ 9))) ∧ w' = w := by
  go_enter Tryz.func63, Tryz.ntmps63
  go_wp2
  all_goals
    go_ret
    refine ⟨lret ?_, rfl⟩
    rw [Bool.eq_iff_iff]
    simp
    try omega
set_option maxRecDepth 100000 in
set_option maxHeartbeats 1000000 in
theorem errText_any (c : Int) (w : World) (hT : EvTab w) : Calls Tryz.prog 34 #[.int .i64 c] w fun e w' => e = .returned (.string (eT c)) ∧ w' = w := by
  have HC := isCode_any c
  by_cases h : 1 ≤ c ∧ c ≤ 9
  · rw [decide_eq_true h] at HC
    obtain ⟨i, rfl⟩ : ∃ i : Nat, c = (i : Int) + 1 := ⟨(c - 1).toNat, by omega⟩
    have hc := hT.cell i (by omega)
    have hi : i < 9 := by omega
    have he : eT ((i : Int) + 1) = errL.getD i ⟨#[]⟩ := by
      unfold eT
      rw [if_pos h]
      congr 1
      omega
    rw [he]
    generalize errL.getD i ⟨#[]⟩ = t at *
    clear h hT he
    go_enter Tryz.func34, Tryz.ntmps34
    go_wp2_with (go_at_call 63; refine (HC _).mono ?_; rintro e w1 ⟨rfl, rfl⟩)
    go_ret
    exact ⟨rfl, rfl⟩
  · rw [decide_eq_false h] at HC
    have he : eT c = ⟨#[]⟩ := by unfold eT; rw [if_neg h]
    rw [he]
    clear h he
    go_enter Tryz.func34, Tryz.ntmps34
    go_wp2_with (go_at_call 63; refine (HC _).mono ?_; rintro e w1 ⟨rfl, rfl⟩)
    go_ret
    exact ⟨rfl, rfl⟩
set_option maxRecDepth 100000 in
set_option maxHeartbeats 2000000 in
theorem rerrText_any (c : Int) (w : World) : Calls Tryz.prog 20 #[.int .i64 c] w fun e w' => e = .returned (.string (eT c)) ∧ Fr noB w w' := by
  by_cases h : 1 ≤ c ∧ c ≤ 9
  · obtain ⟨i, rfl⟩ : ∃ i : Nat, c = (i : Int) + 1 := ⟨(c - 1).toNat, by omega⟩
    have hi : i < 9 := by omega
    have he : eT ((i : Int) + 1) = errL.getD i ⟨#[]⟩ := by
      unfold eT
      rw [if_pos h]
      congr 1
      omega
    rw [he]
    clear h he
    go_enter Tryz.func20, Tryz.ntmps20
    go_wp2_with fail
    all_goals
      go_ret
      refine ⟨?_, (Fr.refl noB w).alloc _⟩
      have e : i = 0 ∨ i = 1 ∨ i = 2 ∨ i = 3 ∨ i = 4 ∨ i = 5 ∨ i = 6 ∨ i = 7 ∨ i = 8 := by omega
      rcases e with rfl | rfl | rfl | rfl | rfl | rfl | rfl | rfl | rfl <;> rfl
  · have he : eT c = ⟨#[]⟩ := by unfold eT; rw [if_neg h]
    rw [he]
    clear he
    by_cases h1 : c < 1
    · clear h
      go_enter Tryz.func20, Tryz.ntmps20
      go_wp2_with fail
      go_ret
      exact ⟨rfl, (Fr.refl noB w).alloc _⟩
    · have h2 : 9 < c := by omega
      clear h
      go_enter Tryz.func20, Tryz.ntmps20
      go_wp2_with fail
      go_ret
      exact ⟨rfl, (Fr.refl noB w).alloc _⟩
#print axioms errText_any
#print axioms rerrText_any
end Go.Proofs.YtkohohjpnlhioaaGreatDoor
/- Which texts are signs: both sides. -/
namespace Go.Proofs.YtkohohjpnlhioaaGreatDoor
open Go.RowKit Go.Shelf

/-- The signs' bytes. -/
def sgLL : List (List UInt8) := sgnL.map (·.data.toList)
/-- Is it a sign? -/
def isS (s : ByteArray) : Bool := decide (s.data.toList ∈ sgLL)
theorem sg_at (i : Nat) (h : i < 21) : sgLL[i]? = some (sg i).data.toList := by
  unfold sgLL sg
  rw [List.getElem?_map, List.getD_eq_getElem?_getD, List.getElem?_eq_getElem (show i < sgnL.length from h)]
  rfl
theorem isS_yes {s : ByteArray} {i : Nat} (h : i < 21) (e : s = sg i) : isS s = true := decide_eq_true (by rw [e]; exact List.mem_of_getElem? (sg_at i h))
theorem isS_no {s : ByteArray} (h : ∀ i, i < 21 → ¬ s = sg i) : isS s = false := by
  refine decide_eq_false fun hm => ?_
  obtain ⟨i, hi, e⟩ := List.getElem_of_mem hm
  have hi' : i < 21 := hi
  refine h i hi' ?_
  have e2 := sg_at i hi'
  rw [List.getElem?_eq_getElem hi, e] at e2
  exact ByteArray.ext (Array.ext' (Option.some.inj e2))
theorem bal_eq {s t : ByteArray} (h : s = t) : (s.toList == t.toList) = true := by subst h; simp
theorem bal_ne {s t : ByteArray} (h : ¬ s = t) : (s.toList == t.toList) = false := by
  rw [beq_eq_false_iff_ne, ByteArray.toList_eq, ByteArray.toList_eq]
  intro e
  exact h (ByteArray.ext (Array.ext' e))
set_option maxRecDepth 100000 in
set_option maxHeartbeats 2000000 in
theorem isSign_lx (s : ByteArray) (w : World) (hS : STab w) : Calls Tryz.prog 35 #[.string s] w fun e w' => e = .returned (.bool (isS s)) ∧ w' = w := by
  obtain ⟨CS, fz, hblk, hinf, hI⟩ := sign_tab w hS
  have HY : Hid (∀ i, i < 21 → s = sg i → isS s = true) := fun i hi e => isS_yes hi e
  have HN : Hid ((∀ i, i < 21 → ¬ s = sg i) → isS s = false) := isS_no
  generalize sg = G at *
  generalize isS s = A at *
  clear hS
  go_enter Tryz.func35, Tryz.ntmps35
  go_wp2_with (refine wpList_load_row rfl 87 (.global 2) rfl 2 rfl 87 CS fz _ hblk Tryz.underlying87 rfl hinf ?_)
  clear hblk hinf
  go_loop [6] (fun iv => ∃ i : Nat, iv = .int .i64 (i : Int) ∧ i ≤ 21 ∧ Hid (∀ j, j < i → ¬ s = G j)) (fun iv => 21 - (intOf iv).toNat)
  case atStart => exact ⟨0, rfl, by omega, fun j hj => by omega⟩
  case round =>
    obtain ⟨i, rfl, hi, HC⟩ := hrel
    by_cases hlt : i < 21
    · have hx := fun W => hI i hlt W
      clear hI
      by_cases he : s = G i
      · have HV : Hid (A = true) := HY.out i hlt he
        have hb := bal_eq he
        generalize G i = T at *
        clear he HC HY HN
        go_wp2_with fail
        go_ret
        rw [HV.out]
        exact ⟨rfl, rfl⟩
      · have hb := bal_ne he
        have HV : Hid (∀ j, j < i + 1 → ¬ s = G j) := fun j hj => by
          by_cases h : j = i
          · rw [h]; exact he
          · exact HC.out j (by omega)
        generalize G i = T at *
        clear he HC HY HN
        go_wp2_with fail
        go_round
        case rel => exact ⟨i + 1, by go_num, by omega, HV⟩
        case measure => simp [intOf]; omega
    · obtain rfl : i = 21 := by omega
      have HV : Hid (A = false) := HN.out HC.out
      clear HC HY HN hI
      go_wp2_with fail
      go_ret
      rw [HV.out]
      exact ⟨rfl, rfl⟩
/-- The document's order of the signs. -/
def sgnR : List ByteArray := [⟨#[60, 62]⟩, ⟨#[60, 61]⟩, ⟨#[62, 61]⟩, ⟨#[40]⟩, ⟨#[41]⟩, ⟨#[123]⟩, ⟨#[125]⟩, ⟨#[59]⟩, ⟨#[124]⟩, ⟨#[126]⟩, ⟨#[33]⟩, ⟨#[94]⟩, ⟨#[42]⟩, ⟨#[47]⟩, ⟨#[43]⟩, ⟨#[45]⟩, ⟨#[38]⟩, ⟨#[61]⟩, ⟨#[60]⟩, ⟨#[62]⟩, ⟨#[37]⟩]
def sgr (i : Nat) : ByteArray := sgnR.getD i ⟨#[]⟩
theorem sgr_size (i : Nat) (h : i < 21) : (sgr i).size ≤ 2 ∧ 1 ≤ (sgr i).size := by
  have e : ∀ k : _root_.Fin 21, (sgr k.val).size ≤ 2 ∧ 1 ≤ (sgr k.val).size := by decide
  exact e ⟨i, h⟩
theorem sgr_isS (i : Nat) (h : i < 21) : isS (sgr i) = true := by
  have e : ∀ k : _root_.Fin 21, isS (sgr k.val) = true := by decide
  exact e ⟨i, h⟩
/-- Does a text begin with the sign of that number? -/
def sgB (s : ByteArray) (i : Nat) : Bool := decide ((sgr i).data.toList.length ≤ s.data.toList.length) && decide (s.data.toList.take (sgr i).data.toList.length = (sgr i).data.toList)
def sgLB (s : List UInt8) (i : Nat) : Bool := decide ((sgr i).data.toList.length ≤ s.length) && decide (s.take (sgr i).data.toList.length = (sgr i).data.toList)
/-- No sign that begins another comes ahead of it. -/
theorem sgr_first (s : ByteArray) (i : Nat) (h : i < 21) (hb : sgB s i = true) (hn : ∀ j, j < i → sgB s j = false) : isS s = decide ((sgr i).data.toList = s.data.toList) := by
  by_cases hs : isS s = true
  · have hm : s.data.toList ∈ sgLL := of_decide_eq_true hs
    rw [hs]
    symm
    refine decide_eq_true ?_
    have key : ∀ t ∈ sgLL, ∀ k : _root_.Fin 21, sgLB t k.val = true → (∀ j : _root_.Fin 21, j.val < k.val → sgLB t j.val = false) → (sgr k.val).data.toList = t := by decide +kernel
    exact key _ hm ⟨i, h⟩ hb (fun j hj => hn j.val hj)
  · have hs' : isS s = false := by simpa using hs
    rw [hs']
    symm
    refine decide_eq_false fun e => ?_
    have := sgr_isS i h
    unfold isS at this hs'
    rw [e, hs'] at this
    cases this
theorem sgr_none (s : ByteArray) (hn : ∀ j, j < 21 → sgB s j = false) : isS s = false := by
  by_cases hs : isS s = true
  · have hm : s.data.toList ∈ sgLL := of_decide_eq_true hs
    have key : ∀ t ∈ sgLL, ∃ k : _root_.Fin 21, sgLB t k.val = true := by decide +kernel
    obtain ⟨k, hk⟩ := key _ hm
    have := hn k.val k.isLt
    rw [show sgB s k.val = sgLB s.data.toList k.val from rfl, hk] at this
    cases this
  · simpa using hs
theorem sgr_cell (w : World) (i : Nat) (h : i < 21) : (w.alloc (.cells #[.string ⟨#[60, 62]⟩, .string ⟨#[60, 61]⟩, .string ⟨#[62, 61]⟩, .string ⟨#[40]⟩, .string ⟨#[41]⟩, .string ⟨#[123]⟩, .string ⟨#[125]⟩, .string ⟨#[59]⟩, .string ⟨#[124]⟩, .string ⟨#[126]⟩, .string ⟨#[33]⟩, .string ⟨#[94]⟩, .string ⟨#[42]⟩, .string ⟨#[47]⟩, .string ⟨#[43]⟩, .string ⟨#[45]⟩, .string ⟨#[38]⟩, .string ⟨#[61]⟩, .string ⟨#[60]⟩, .string ⟨#[62]⟩, .string ⟨#[37]⟩] 9 (0, 0))).cell? ⟨w.heap.size, i, none⟩ = some (.string (sgr i)) := by
  refine cellOf (heap_alloc_new w _) ?_
  match i, h with
  | 0, _ => rfl
  | 1, _ => rfl
  | 2, _ => rfl
  | 3, _ => rfl
  | 4, _ => rfl
  | 5, _ => rfl
  | 6, _ => rfl
  | 7, _ => rfl
  | 8, _ => rfl
  | 9, _ => rfl
  | 10, _ => rfl
  | 11, _ => rfl
  | 12, _ => rfl
  | 13, _ => rfl
  | 14, _ => rfl
  | 15, _ => rfl
  | 16, _ => rfl
  | 17, _ => rfl
  | 18, _ => rfl
  | 19, _ => rfl
  | 20, _ => rfl
  | n + 21, h => exact absurd h (by omega)
theorem ext_take (s : ByteArray) (n : Nat) : (s.extract 0 n).toList = s.data.toList.take n := by
  rw [ByteArray.toList_eq, ByteArray.data_extract]
  simp
/-- What the document's sign answers at 0: it is s just if s is a sign. -/
theorem rsign_lx (s : ByteArray) (w : World) (hz : s.size ≤ 140737488355328) : Calls Tryz.prog 21 #[.string s, .int .i64 0] w fun e w' => (∃ t, e = .returned (.string t) ∧ (1 ≤ s.size → (t.toList == s.toList) = isS s)) ∧ Fr noB w w' := by
  have HC0 : Hid _ := sgr_cell w
  go_enter Tryz.func21, Tryz.ntmps21
  go_wp2_with fail
  obtain ⟨W0, hW0⟩ : ∃ W0, w.alloc (.cells #[.string ⟨#[60, 62]⟩, .string ⟨#[60, 61]⟩, .string ⟨#[62, 61]⟩, .string ⟨#[40]⟩, .string ⟨#[41]⟩, .string ⟨#[123]⟩, .string ⟨#[125]⟩, .string ⟨#[59]⟩, .string ⟨#[124]⟩, .string ⟨#[126]⟩, .string ⟨#[33]⟩, .string ⟨#[94]⟩, .string ⟨#[42]⟩, .string ⟨#[47]⟩, .string ⟨#[43]⟩, .string ⟨#[45]⟩, .string ⟨#[38]⟩, .string ⟨#[61]⟩, .string ⟨#[60]⟩, .string ⟨#[62]⟩, .string ⟨#[37]⟩] 9 (0, 0)) = W0 := ⟨_, rfl⟩
  have HF0 : Hid (Fr noB w W0) := by rw [← hW0]; exact (Fr.refl noB w).alloc _
  have HC : Hid (∀ i, i < 21 → W0.cell? ⟨w.heap.size, i, none⟩ = some (.string (sgr i))) := by rw [← hW0]; exact HC0.out
  have hlt0 : w.heap.size < W0.heap.size := by rw [← hW0]; exact lt_of_block (heap_alloc_new w _)
  rw [hW0]
  clear hW0 HC0
  obtain ⟨H, hH⟩ : ∃ H, w.heap.size = H := ⟨_, rfl⟩
  rw [hH] at HC hlt0 ⊢
  clear hH
  go_loopw [6] (fun iv wr => ∃ i : Nat, iv = .int .i64 (i : Int) ∧ i ≤ 21 ∧ Hid (∀ j, j < i → sgB s j = false) ∧ Hid (Fr noB W0 wr)) (fun iv _ => 21 - (intOf iv).toNat)
  case atStart => exact ⟨0, rfl, by omega, fun j hj => by omega, Fr.refl _ _⟩
  case round =>
    obtain ⟨i, rfl, hi, HB, HF⟩ := hrel
    by_cases hlt : i < 21
    · have hc : wr.cell? ⟨H, i, none⟩ = some (.string (sgr i)) := (HF.out.cell (a := ⟨H, i, none⟩) hlt0 id).trans (HC.out i hlt)
      have hsz := sgr_size i hlt
      have hl1 : (sgr i).data.toList.length = (sgr i).size := Array.length_toList
      have hl2 : s.data.toList.length = s.size := Array.length_toList
      have HFI : Hid (sgB s i = true → isS s = decide ((sgr i).data.toList = s.data.toList)) := fun hb => sgr_first s i hlt hb HB.out
      have HSB : Hid (sgB s i = (decide ((sgr i).size ≤ s.size) && decide ((s.extract 0 (sgr i).size).toList = (sgr i).toList))) := by
        show sgB s i = _
        unfold sgB
        rw [hl1, hl2, ext_take, ByteArray.toList_eq (sgr i)]
      by_cases hle : (sgr i).size ≤ s.size
      · by_cases heq : (s.extract 0 (sgr i).size).toList = (sgr i).toList
        · have HV : Hid (isS s = ((sgr i).toList == s.toList)) := by
            show _ = _
            rw [HFI.out (by rw [HSB.out, decide_eq_true hle, decide_eq_true heq]; rfl), ByteArray.toList_eq, ByteArray.toList_eq, Bool.eq_iff_iff]
            simp
          generalize sgr i = T at *
          have g1 : (T.size : Int) ≤ (s.size : Int) := by omega
          have g2 : ((s.extract 0 T.size).toList == T.toList) = true := by simpa using heq
          clear heq HFI HSB HB hl1 hl2
          have hc2 : ∀ n, (wr.drewN n).cell? ⟨H, i, none⟩ = some (.string T) := fun _ => hc
          go_wp2_with fail
          go_quiet (fail)
          go_wp2_with fail
          go_ret
          exact ⟨⟨T, rfl, fun _ => HV.out.symm⟩, HF0.out.trans (HF.out.drewN _)⟩
        · have HV : Hid (∀ j, j < i + 1 → sgB s j = false) := fun j hj => by
            by_cases h : j = i
            · rw [h, HSB.out, decide_eq_false heq]; simp
            · exact HB.out j (by omega)
          generalize sgr i = T at *
          have g1 : (T.size : Int) ≤ (s.size : Int) := by omega
          have g2 : ((s.extract 0 T.size).toList == T.toList) = false := by simpa using heq
          clear heq HFI HSB HB hl1 hl2
          go_wp2_with fail
          go_quiet (fail)
          go_wp2_with fail
          go_roundw
          case rel => exact ⟨i + 1, by go_num, by omega, HV, HF.out.drewN _⟩
          case measure => simp [intOf]; omega
      · have HV : Hid (∀ j, j < i + 1 → sgB s j = false) := fun j hj => by
          by_cases h : j = i
          · rw [h, HSB.out, decide_eq_false hle]; rfl
          · exact HB.out j (by omega)
        generalize sgr i = T at *
        have g1 : ¬ (T.size : Int) ≤ (s.size : Int) := by omega
        have g3 : decide ((T.size : Int) ≤ (s.size : Int)) = false := decide_eq_false g1
        clear HFI HSB HB hl1 hl2
        go_wp2_with fail
        go_quiet (fail)
        go_wp2_with fail
        go_roundw
        case rel => exact ⟨i + 1, by go_num, by omega, HV, HF.out.drewN _⟩
        case measure => simp [intOf]; omega
    · obtain rfl : i = 21 := by omega
      have HV : Hid (isS s = false) := sgr_none s HB.out
      clear HB
      go_wp2_with fail
      go_ret
      refine ⟨⟨⟨#[]⟩, rfl, fun h1 => ?_⟩, HF0.out.trans HF.out⟩
      rw [HV.out, beq_eq_false_iff_ne, ByteArray.toList_eq, ByteArray.toList_eq]
      intro e
      have h2 : s.data.toList.length = s.size := Array.length_toList
      rw [← e] at h2
      simp at h2
      omega
#print axioms rsign_lx
#print axioms isSign_lx
end Go.Proofs.YtkohohjpnlhioaaGreatDoor
