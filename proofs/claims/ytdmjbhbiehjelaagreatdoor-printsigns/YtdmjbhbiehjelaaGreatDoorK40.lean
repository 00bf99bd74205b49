/- Lexis' reader: a sign. -/
import Derived.Test.YtdmjbhbiehjelaaGreatDoorK38
import Derived.Test.YtdmjbhbiehjelaaGreatDoorREnd
import Derived.Laws.Rows
namespace Go.Proofs.YtdmjbhbiehjelaaGreatDoor
open Go.RowKit Go.Shelf

/-- The signs, in the table's order. -/
def sgnL : List ByteArray := [⟨#[40]⟩, ⟨#[41]⟩, ⟨#[123]⟩, ⟨#[125]⟩, ⟨#[59]⟩, ⟨#[124]⟩, ⟨#[126]⟩, ⟨#[33]⟩, ⟨#[94]⟩, ⟨#[42]⟩, ⟨#[47]⟩, ⟨#[43]⟩, ⟨#[45]⟩, ⟨#[38]⟩, ⟨#[61]⟩, ⟨#[60, 62]⟩, ⟨#[60]⟩, ⟨#[60, 61]⟩, ⟨#[62]⟩, ⟨#[62, 61]⟩, ⟨#[37]⟩]
def sg (i : Nat) : ByteArray := sgnL.getD i ⟨#[]⟩
/-- The table of signs lies in its block. -/
def STab (w : World) : Prop := ∃ fr, w.heap[12]? = some (.cells #[.string ⟨#[40]⟩, .string ⟨#[41]⟩, .string ⟨#[123]⟩, .string ⟨#[125]⟩, .string ⟨#[59]⟩, .string ⟨#[124]⟩, .string ⟨#[126]⟩, .string ⟨#[33]⟩, .string ⟨#[94]⟩, .string ⟨#[42]⟩, .string ⟨#[47]⟩, .string ⟨#[43]⟩, .string ⟨#[45]⟩, .string ⟨#[38]⟩, .string ⟨#[61]⟩, .string ⟨#[60, 62]⟩, .string ⟨#[60]⟩, .string ⟨#[60, 61]⟩, .string ⟨#[62]⟩, .string ⟨#[62, 61]⟩, .string ⟨#[37]⟩] 235 fr)
theorem STab.fr {S : Nat → Prop} {w w' : World} (h : STab w) (hF : Fr S w w') (hS : ¬ S 12) : STab w' := by
  obtain ⟨f, e⟩ := h
  exact ⟨f, hF.obj e hS⟩
theorem info_arr21 : (Tryz.prog.info? 235).map (·.size) = some 21 := by kernel_rfl
theorem idx21 (i : Nat) (hi : i < 21) (w : World) : (Instr.index 235 (.agg #[.string ⟨#[40]⟩, .string ⟨#[41]⟩, .string ⟨#[123]⟩, .string ⟨#[125]⟩, .string ⟨#[59]⟩, .string ⟨#[124]⟩, .string ⟨#[126]⟩, .string ⟨#[33]⟩, .string ⟨#[94]⟩, .string ⟨#[42]⟩, .string ⟨#[47]⟩, .string ⟨#[43]⟩, .string ⟨#[45]⟩, .string ⟨#[38]⟩, .string ⟨#[61]⟩, .string ⟨#[60, 62]⟩, .string ⟨#[60]⟩, .string ⟨#[60, 61]⟩, .string ⟨#[62]⟩, .string ⟨#[62, 61]⟩, .string ⟨#[37]⟩]) (.int .i64 (i : Int))).run Tryz.prog w = .ok (.string (sg i)) w := by
  obtain rfl | rfl | rfl | rfl | rfl | rfl | rfl | rfl | rfl | rfl | rfl | rfl | rfl | rfl | rfl | rfl | rfl | rfl | rfl | rfl | rfl : i = 0 ∨ i = 1 ∨ i = 2 ∨ i = 3 ∨ i = 4 ∨ i = 5 ∨ i = 6 ∨ i = 7 ∨ i = 8 ∨ i = 9 ∨ i = 10 ∨ i = 11 ∨ i = 12 ∨ i = 13 ∨ i = 14 ∨ i = 15 ∨ i = 16 ∨ i = 17 ∨ i = 18 ∨ i = 19 ∨ i = 20 := by omega
  all_goals kernel_rfl
theorem sg_size (i : Nat) (hi : i < 21) : (sg i).size ≤ 2 := by
  obtain rfl | rfl | rfl | rfl | rfl | rfl | rfl | rfl | rfl | rfl | rfl | rfl | rfl | rfl | rfl | rfl | rfl | rfl | rfl | rfl | rfl : i = 0 ∨ i = 1 ∨ i = 2 ∨ i = 3 ∨ i = 4 ∨ i = 5 ∨ i = 6 ∨ i = 7 ∨ i = 8 ∨ i = 9 ∨ i = 10 ∨ i = 11 ∨ i = 12 ∨ i = 13 ∨ i = 14 ∨ i = 15 ∨ i = 16 ∨ i = 17 ∨ i = 18 ∨ i = 19 ∨ i = 20 := by omega
  all_goals decide
/-- What the walk over the signs wants of the table. -/
theorem sign_tab (w : World) (h : STab w) : ∃ (CS : Array Value) (fr : Nat × Nat), w.heap[12]? = some (.cells CS 235 fr) ∧ (Tryz.prog.info? 235).map (·.size) = some CS.size ∧ ∀ (i : Nat), i < 21 → ∀ W : World, (Instr.index 235 (.agg CS) (.int .i64 (i : Int))).run Tryz.prog W = .ok (.string (sg i)) W := by
  obtain ⟨f, e⟩ := h
  exact ⟨_, f, e, info_arr21, fun i hi W => idx21 i hi W⟩
/-- Stands a text there? -/
def stB (s : ByteArray) (p : Nat) (t : ByteArray) : Bool := Lib.hasPrefix (s.extract p s.size).data.toList t.data.toList
/-- The longest of the first signs that stands there. -/
def lsg (s : ByteArray) (p : Nat) : Nat → ByteArray
  | 0 => ⟨#[]⟩
  | i + 1 => if (lsg s p i).size < (sg i).size ∧ stB s p (sg i) = true then sg i else lsg s p i
theorem lsg_size (s : ByteArray) (p : Nat) : ∀ i, i ≤ 21 → (lsg s p i).size ≤ 2
  | 0, _ => by rw [lsg]; decide
  | i + 1, h => by
    rw [lsg]
    split
    · exact sg_size i (by omega)
    · exact lsg_size s p i (by omega)
end Go.Proofs.YtdmjbhbiehjelaaGreatDoor
/- Which texts are signs: both sides. -/
namespace Go.Proofs.YtdmjbhbiehjelaaGreatDoor
open Go.RowKit Go.Shelf

/-- The signs' bytes. -/
def sgLL : List (List UInt8) := sgnL.map (·.data.toList)
/-- Is it a sign? -/
def isS (s : ByteArray) : Bool := decide (s.data.toList ∈ sgLL)
theorem sg_at (i : Nat) (h : i < 21) : sgLL[i]? = some (sg i).data.toList := by
  unfold sgLL sg
  rw [List.getElem?_map, List.getD_eq_getElem?_getD, List.getElem?_eq_getElem (show i < sgnL.length from h)]
  rfl
theorem isS_yes {s : ByteArray} {i : Nat} (h : i < 21) (e : s = sg i) : isS s = true := decide_eq_true (by rw [e]; exact List.mem_of_getElem? (sg_at i h))
theorem isS_no {s : ByteArray} (h : ∀ i, i < 21 → ¬ s = sg i) : isS s = false := by
  refine decide_eq_false fun hm => ?_
  obtain ⟨i, hi, e⟩ := List.getElem_of_mem hm
  have hi' : i < 21 := hi
  refine h i hi' ?_
  have e2 := sg_at i hi'
  rw [List.getElem?_eq_getElem hi, e] at e2
  exact ByteArray.ext (Array.ext' (Option.some.inj e2))
theorem bal_eq {s t : ByteArray} (h : s = t) : (s.toList == t.toList) = true := by subst h; simp
theorem bal_ne {s t : ByteArray} (h : ¬ s = t) : (s.toList == t.toList) = false := by
  rw [beq_eq_false_iff_ne, ByteArray.toList_eq, ByteArray.toList_eq]
  intro e
  exact h (ByteArray.ext (Array.ext' e))
set_option maxRecDepth 100000 in
set_option maxHeartbeats 2000000 in
theorem isSign_lx (s : ByteArray) (w : World) (hS : STab w) : Calls Tryz.prog 211 #[.string s] w fun e w' => e = .returned (.bool (isS s)) ∧ w' = w := by
  obtain ⟨CS, fz, hblk, hinf, hI⟩ := sign_tab w hS
  have HY : Hid (∀ i, i < 21 → s = sg i → isS s = true) := fun i hi e => isS_yes hi e
  have HN : Hid ((∀ i, i < 21 → ¬ s = sg i) → isS s = false) := isS_no
  generalize sg = G at *
  generalize isS s = A at *
  clear hS
  go_enter Tryz.func211, Tryz.ntmps211
  go_wp2_with (refine wpList_load_row rfl 235 (.global 12) rfl 12 rfl 235 CS fz _ hblk Tryz.underlying235 rfl hinf ?_)
  clear hblk hinf
  go_loop [6] (fun iv => ∃ i : Nat, iv = .int .i64 (i : Int) ∧ i ≤ 21 ∧ Hid (∀ j, j < i → ¬ s = G j)) (fun iv => 21 - (intOf iv).toNat)
  case atStart => exact ⟨0, rfl, by omega, fun j hj => by omega⟩
  case round =>
    obtain ⟨i, rfl, hi, HC⟩ := hrel
    by_cases hlt : i < 21
    · have hx := fun W => hI i hlt W
      clear hI
      by_cases he : s = G i
      · have HV : Hid (A = true) := HY.out i hlt he
        have hb := bal_eq he
        generalize G i = T at *
        clear he HC HY HN
        go_wp2_with fail
        go_ret
        rw [HV.out]
        exact ⟨rfl, rfl⟩
      · have hb := bal_ne he
        have HV : Hid (∀ j, j < i + 1 → ¬ s = G j) := fun j hj => by
          by_cases h : j = i
          · rw [h]; exact he
          · exact HC.out j (by omega)
        generalize G i = T at *
        clear he HC HY HN
        go_wp2_with fail
        go_round
        case rel => exact ⟨i + 1, by go_num, by omega, HV⟩
        case measure => simp [intOf]; omega
    · obtain rfl : i = 21 := by omega
      have HV : Hid (A = false) := HN.out HC.out
      clear HC HY HN hI
      go_wp2_with fail
      go_ret
      rw [HV.out]
      exact ⟨rfl, rfl⟩
/-- The document's order of the signs. -/
def sgnR : List ByteArray := [⟨#[60, 62]⟩, ⟨#[60, 61]⟩, ⟨#[62, 61]⟩, ⟨#[40]⟩, ⟨#[41]⟩, ⟨#[123]⟩, ⟨#[125]⟩, ⟨#[59]⟩, ⟨#[124]⟩, ⟨#[126]⟩, ⟨#[33]⟩, ⟨#[94]⟩, ⟨#[42]⟩, ⟨#[47]⟩, ⟨#[43]⟩, ⟨#[45]⟩, ⟨#[38]⟩, ⟨#[61]⟩, ⟨#[60]⟩, ⟨#[62]⟩, ⟨#[37]⟩]
def sgr (i : Nat) : ByteArray := sgnR.getD i ⟨#[]⟩
theorem sgr_size (i : Nat) (h : i < 21) : (sgr i).size ≤ 2 ∧ 1 ≤ (sgr i).size := by
  have e : ∀ k : _root_.Fin 21, (sgr k.val).size ≤ 2 ∧ 1 ≤ (sgr k.val).size := by decide
  exact e ⟨i, h⟩
theorem sgr_isS (i : Nat) (h : i < 21) : isS (sgr i) = true := by
  have e : ∀ k : _root_.Fin 21, isS (sgr k.val) = true := by decide
  exact e ⟨i, h⟩
/-- Does a text begin with the sign of that number? -/
def sgB (s : ByteArray) (i : Nat) : Bool := decide ((sgr i).data.toList.length ≤ s.data.toList.length) && decide (s.data.toList.take (sgr i).data.toList.length = (sgr i).data.toList)
def sgLB (s : List UInt8) (i : Nat) : Bool := decide ((sgr i).data.toList.length ≤ s.length) && decide (s.take (sgr i).data.toList.length = (sgr i).data.toList)
/-- No sign that begins another comes ahead of it. -/
theorem sgr_first (s : ByteArray) (i : Nat) (h : i < 21) (hb : sgB s i = true) (hn : ∀ j, j < i → sgB s j = false) : isS s = decide ((sgr i).data.toList = s.data.toList) := by
  by_cases hs : isS s = true
  · have hm : s.data.toList ∈ sgLL := of_decide_eq_true hs
    rw [hs]
    symm
    refine decide_eq_true ?_
    have key : ∀ t ∈ sgLL, ∀ k : _root_.Fin 21, sgLB t k.val = true → (∀ j : _root_.Fin 21, j.val < k.val → sgLB t j.val = false) → (sgr k.val).data.toList = t := by decide +kernel
    exact key _ hm ⟨i, h⟩ hb (fun j hj => hn j.val hj)
  · have hs' : isS s = false := by simpa using hs
    rw [hs']
    symm
    refine decide_eq_false fun e => ?_
    have := sgr_isS i h
    unfold isS at this hs'
    rw [e, hs'] at this
    cases this
theorem sgr_none (s : ByteArray) (hn : ∀ j, j < 21 → sgB s j = false) : isS s = false := by
  by_cases hs : isS s = true
  · have hm : s.data.toList ∈ sgLL := of_decide_eq_true hs
    have key : ∀ t ∈ sgLL, ∃ k : _root_.Fin 21, sgLB t k.val = true := by decide +kernel
    obtain ⟨k, hk⟩ := key _ hm
    have := hn k.val k.isLt
    rw [show sgB s k.val = sgLB s.data.toList k.val from rfl, hk] at this
    cases this
  · simpa using hs
theorem sgr_cell (w : World) (i : Nat) (h : i < 21) : (w.alloc (.cells #[.string ⟨#[60, 62]⟩, .string ⟨#[60, 61]⟩, .string ⟨#[62, 61]⟩, .string ⟨#[40]⟩, .string ⟨#[41]⟩, .string ⟨#[123]⟩, .string ⟨#[125]⟩, .string ⟨#[59]⟩, .string ⟨#[124]⟩, .string ⟨#[126]⟩, .string ⟨#[33]⟩, .string ⟨#[94]⟩, .string ⟨#[42]⟩, .string ⟨#[47]⟩, .string ⟨#[43]⟩, .string ⟨#[45]⟩, .string ⟨#[38]⟩, .string ⟨#[61]⟩, .string ⟨#[60]⟩, .string ⟨#[62]⟩, .string ⟨#[37]⟩] 9 (0, 0))).cell? ⟨w.heap.size, i, none⟩ = some (.string (sgr i)) := by
  refine cellOf (heap_alloc_new w _) ?_
  match i, h with
  | 0, _ => rfl
  | 1, _ => rfl
  | 2, _ => rfl
  | 3, _ => rfl
  | 4, _ => rfl
  | 5, _ => rfl
  | 6, _ => rfl
  | 7, _ => rfl
  | 8, _ => rfl
  | 9, _ => rfl
  | 10, _ => rfl
  | 11, _ => rfl
  | 12, _ => rfl
  | 13, _ => rfl
  | 14, _ => rfl
  | 15, _ => rfl
  | 16, _ => rfl
  | 17, _ => rfl
  | 18, _ => rfl
  | 19, _ => rfl
  | 20, _ => rfl
  | n + 21, h => exact absurd h (by omega)
theorem ext_take (s : ByteArray) (n : Nat) : (s.extract 0 n).toList = s.data.toList.take n := by
  rw [ByteArray.toList_eq, ByteArray.data_extract]
  simp
#print axioms isSign_lx
end Go.Proofs.YtdmjbhbiehjelaaGreatDoor
