/- A decimal in memory. -/
import Derived.Test.YtnklmcmdlobicaaGreatDoorChecked
import Derived.Test.YtnklmcmdlobicaaGreatDoorFrame
import Derived.Test.YtnklmcmdlobicaaGreatDoorXDec
namespace Go.Proofs.YtnklmcmdlobicaaGreatDoor
open Go.RowKit

/-- The cells of a decimal: its 800 bytes, how many digits it has, its point, its sign, whether digits were lost. -/
def dCells (C : List Nat) (nd dp : Int) (tr : Bool) : Array Value := (C.map (fun x : Nat => Value.int .u8 (x : Int)) ++ [Value.int .i64 nd, Value.int .i64 dp, Value.bool false, Value.bool tr] : List Value).toArray
/-- Block b is a decimal. -/
def DecAt (w : World) (b : Nat) (C : List Nat) (nd dp : Int) (tr : Bool) : Prop := w.heap[b]? = some (.cells (dCells C nd dp tr) 187 (0, 0)) ∧ C.length = 800
theorem dCells_get {C : List Nat} (hC : C.length = 800) (nd dp : Int) (tr : Bool) (i : Nat) (h : i < 800) : (dCells C nd dp tr)[i]? = some (.int .u8 ((C.getD i 0 : Nat) : Int)) := by
  unfold dCells
  rw [List.getElem?_toArray, List.getElem?_append_left (by simpa [hC] using h), List.getElem?_map, List.getElem?_eq_getElem (by omega)]
  simp [List.getD, show i < C.length by omega]
theorem dCells_nd {C : List Nat} (hC : C.length = 800) (nd dp : Int) (tr : Bool) : (dCells C nd dp tr)[800]? = some (.int .i64 nd) := by
  unfold dCells
  rw [List.getElem?_toArray, List.getElem?_append_right (by simp [hC])]
  simp [hC]
theorem dCells_dp {C : List Nat} (hC : C.length = 800) (nd dp : Int) (tr : Bool) : (dCells C nd dp tr)[801]? = some (.int .i64 dp) := by
  unfold dCells
  rw [List.getElem?_toArray, List.getElem?_append_right (by simp [hC])]
  simp [hC]
theorem dCells_tr {C : List Nat} (hC : C.length = 800) (nd dp : Int) (tr : Bool) : (dCells C nd dp tr)[803]? = some (.bool tr) := by
  unfold dCells
  rw [List.getElem?_toArray, List.getElem?_append_right (by simp [hC])]
  simp [hC]
theorem dCells_set {C : List Nat} (hC : C.length = 800) (nd dp : Int) (tr : Bool) (i v : Nat) (h : i < 800) : (dCells C nd dp tr).setIfInBounds i (.int .u8 (v : Int)) = dCells (C.set i v) nd dp tr := by
  unfold dCells
  rw [List.setIfInBounds_toArray, List.set_append_left _ _ (by simpa [hC] using h), List.map_set]
theorem dCells_setnd {C : List Nat} (hC : C.length = 800) (nd dp nd' : Int) (tr : Bool) : (dCells C nd dp tr).setIfInBounds 800 (.int .i64 nd') = dCells C nd' dp tr := by
  unfold dCells
  rw [List.setIfInBounds_toArray, List.set_append_right _ _ (by simp [hC])]
  simp [hC]
theorem dCells_setdp {C : List Nat} (hC : C.length = 800) (nd dp dp' : Int) (tr : Bool) : (dCells C nd dp tr).setIfInBounds 801 (.int .i64 dp') = dCells C nd dp' tr := by
  unfold dCells
  rw [List.setIfInBounds_toArray, List.set_append_right _ _ (by simp [hC])]
  simp [hC]
theorem dCells_settr {C : List Nat} (hC : C.length = 800) (nd dp : Int) (tr tr' : Bool) : (dCells C nd dp tr).setIfInBounds 803 (.bool tr') = dCells C nd dp tr' := by
  unfold dCells
  rw [List.setIfInBounds_toArray, List.set_append_right _ _ (by simp [hC])]
  simp [hC]
theorem DecAt.cell {w : World} {b : Nat} {C : List Nat} {nd dp : Int} {tr : Bool} (h : DecAt w b C nd dp tr) (i : Nat) (hi : i < 800) : w.cell? ⟨b, i, none⟩ = some (.int .u8 ((C.getD i 0 : Nat) : Int)) := cellOf h.1 (dCells_get h.2 nd dp tr i hi)
theorem DecAt.nd {w : World} {b : Nat} {C : List Nat} {nd dp : Int} {tr : Bool} (h : DecAt w b C nd dp tr) : w.cell? ⟨b, 800, none⟩ = some (.int .i64 nd) := cellOf h.1 (dCells_nd h.2 nd dp tr)
theorem DecAt.dp {w : World} {b : Nat} {C : List Nat} {nd dp : Int} {tr : Bool} (h : DecAt w b C nd dp tr) : w.cell? ⟨b, 801, none⟩ = some (.int .i64 dp) := cellOf h.1 (dCells_dp h.2 nd dp tr)
theorem DecAt.tr {w : World} {b : Nat} {C : List Nat} {nd dp : Int} {tr : Bool} (h : DecAt w b C nd dp tr) : w.cell? ⟨b, 803, none⟩ = some (.bool tr) := cellOf h.1 (dCells_tr h.2 nd dp tr)
theorem DecAt.set {w : World} {b : Nat} {C : List Nat} {nd dp : Int} {tr : Bool} (h : DecAt w b C nd dp tr) (i v : Nat) (hi : i < 800) : DecAt (w.setCell ⟨b, i, none⟩ (.int .u8 (v : Int))) b (C.set i v) nd dp tr := by
  have e := setOf i (.int .u8 (v : Int)) h.1
  rw [dCells_set h.2 _ _ _ _ _ hi] at e
  exact ⟨e, by rw [List.length_set]; exact h.2⟩
theorem DecAt.setnd {w : World} {b : Nat} {C : List Nat} {nd dp : Int} {tr : Bool} (h : DecAt w b C nd dp tr) (nd' : Int) : DecAt (w.setCell ⟨b, 800, none⟩ (.int .i64 nd')) b C nd' dp tr := by
  have e := setOf 800 (.int .i64 nd') h.1
  rw [dCells_setnd h.2] at e
  exact ⟨e, h.2⟩
theorem DecAt.setdp {w : World} {b : Nat} {C : List Nat} {nd dp : Int} {tr : Bool} (h : DecAt w b C nd dp tr) (dp' : Int) : DecAt (w.setCell ⟨b, 801, none⟩ (.int .i64 dp')) b C nd dp' tr := by
  have e := setOf 801 (.int .i64 dp') h.1
  rw [dCells_setdp h.2] at e
  exact ⟨e, h.2⟩
theorem DecAt.settr {w : World} {b : Nat} {C : List Nat} {nd dp : Int} {tr : Bool} (h : DecAt w b C nd dp tr) (tr' : Bool) : DecAt (w.setCell ⟨b, 803, none⟩ (.bool tr')) b C nd dp tr' := by
  have e := setOf 803 (.bool tr') h.1
  rw [dCells_settr h.2] at e
  exact ⟨e, h.2⟩
theorem DecAt.free {w : World} {b : Nat} {C : List Nat} {nd dp : Int} {tr : Bool} (h : DecAt w b C nd dp tr) (i : Nat) : w.frozen? ⟨b, i, none⟩ = false := freeOf i h.1
theorem DecAt.keep {S : Nat → Prop} {w w' : World} {b : Nat} {C : List Nat} {nd dp : Int} {tr : Bool} (h : DecAt w b C nd dp tr) (hF : Fr S w w') (hs : ¬ S b) : DecAt w' b C nd dp tr := ⟨hF.obj h.1 hs, h.2⟩
/-- Block b is the decimal with the digits L and the point dp. -/
def DecIs (w : World) (b : Nat) (L : List Nat) (dp : Int) : Prop := ∃ C tr, DecAt w b C (L.length : Int) dp tr ∧ L.length ≤ 800 ∧ ∀ i (h : i < L.length), C.getD i 0 = 48 + L[i]
theorem DecIs.keep {S : Nat → Prop} {w w' : World} {b : Nat} {L : List Nat} {dp : Int} (h : DecIs w b L dp) (hF : Fr S w w') (hs : ¬ S b) : DecIs w' b L dp := by
  obtain ⟨C, tr, h1, h2, h3⟩ := h
  exact ⟨C, tr, h1.keep hF hs, h2, h3⟩
end Go.Proofs.YtnklmcmdlobicaaGreatDoor
