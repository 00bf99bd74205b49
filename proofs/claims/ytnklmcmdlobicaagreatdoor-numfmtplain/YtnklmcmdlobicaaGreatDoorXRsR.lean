/- The digits of the whole number that is one more: the document's raised. -/
import Derived.Test.YtnklmcmdlobicaaGreatDoorXRsd
import Derived.Laws.IdiomStrings
import Derived.Lib.OthersKept
namespace Go.Proofs.YtnklmcmdlobicaaGreatDoor
open Go.RowKit Ieee Go.Shelf

theorem get_data (s : ByteArray) (j : Nat) (h : j < s.size) : s.get! j = s.data[j]'h := by
  show s.data[j]! = _
  exact getElem!_pos _ _ _
/-- The bytes that a block begins with. -/
structure CellsB (w : World) (b n : Nat) (g : Nat → Nat) : Prop where
  ex : ∃ cs fz, w.heap[b]? = some (.cells cs 5 fz) ∧ n ≤ fz.1 ∧ ∀ j, j < n → cs[j]? = some (.int .u8 ((g j : Nat) : Int))
theorem CellsB.cell {w : World} {b n : Nat} {g : Nat → Nat} (h : CellsB w b n g) (j : Nat) (hj : j < n) : w.cell? ⟨b, j, none⟩ = some (.int .u8 ((g j : Nat) : Int)) := by
  obtain ⟨⟨cs, fz, h1, h2, h3⟩⟩ := h
  simp [World.cell?, h1, h3 j hj]
theorem CellsB.free {w : World} {b n : Nat} {g : Nat → Nat} (h : CellsB w b n g) (j : Nat) (hj : j < n) : w.frozen? ⟨b, j, none⟩ = false := by
  obtain ⟨⟨cs, fz, h1, h2, h3⟩⟩ := h
  simp [World.frozen?, h1]
  omega
theorem CellsB.obj {w w' : World} {b n : Nat} {g : Nat → Nat} (h : CellsB w b n g) (hk : w'.heap[b]? = w.heap[b]?) : CellsB w' b n g := by
  obtain ⟨⟨cs, fz, h1, h2⟩⟩ := h
  exact ⟨⟨cs, fz, hk.trans h1, h2⟩⟩
theorem CellsB.set {w : World} {b n : Nat} {g : Nat → Nat} (h : CellsB w b n g) (j v : Nat) : CellsB (w.setCell ⟨b, j, none⟩ (.int .u8 ((v : Nat) : Int))) b n (fun i => if i = j then v else g i) := by
  obtain ⟨⟨cs, fz, h1, h2, h3⟩⟩ := h
  refine ⟨⟨cs.setIfInBounds j (.int .u8 ((v : Nat) : Int)), fz, ?_, h2, fun i hi => ?_⟩⟩
  · have hlt := lt_of_block h1
    have h' : w.heap[b] = .cells cs 5 fz := by simpa [Array.getElem?_eq_getElem hlt] using h1
    show (w.heap.modify b _)[b]? = _
    rw [Array.getElem?_eq_getElem (by simpa using hlt), Array.getElem_modify_self, h']
    rfl
  · have := h3 i hi
    by_cases e : j = i
    · subst e
      have hl : j < cs.size := (Array.getElem?_eq_some_iff.1 this).1
      simp [hl]
    · rw [Array.getElem?_setIfInBounds_ne e, this]
      simp [show ¬ i = j by omega]
theorem CellsB.congr {w : World} {b n : Nat} {g g' : Nat → Nat} (h : CellsB w b n g) (e : ∀ j, j < n → g j = g' j) : CellsB w b n g' := by
  obtain ⟨⟨cs, fz, h1, h2, h3⟩⟩ := h
  exact ⟨⟨cs, fz, h1, h2, fun j hj => by rw [h3 j hj, e j hj]⟩⟩
theorem bytes_of (s : ByteArray) (w : World) : ∃ c W0, (convert 9 71 (.string s)).run Tryz.prog w = .ok (.slice (some ⟨w.heap.size, 0, none⟩) s.size c) W0 ∧ CellsB W0 w.heap.size s.size (fun j => (s.get! j).toNat) ∧ Fr noB w W0 ∧ W0.heap.size = w.heap.size + 1 := by
  refine ⟨_, _, run_bytes_of_string w 9 71 5 s Tryz.underlying9 Tryz.underlying71 Tryz.underlying5, ?_, ((Fr.refl noB w).drew).alloc _, by simp⟩
  refine ⟨⟨_, _, heap_alloc_new w.drew _, ?_, fun j hj => ?_⟩⟩
  · simp [bytesRow]
  · have e : s.get! j = s.data[j]'hj := get_data s j hj
    have hj' : j < s.data.size := hj
    show _ = some (Value.int .u8 (((s.get! j).toNat : Nat) : Int))
    rw [e]
    simp [bytesRow, Array.getElem?_append]
    rw [if_pos hj, Array.getElem?_eq_getElem hj']
    rfl
theorem back_list (X : List UInt8) (w : World) (b c : Nat) (h : CellsB w b X.length (fun j => (X.getD j 0).toNat)) : (convert 71 9 (.slice (some ⟨b, 0, none⟩) X.length c)).run Tryz.prog w = .ok (.string (baL X)) w :=
  run_convert_bytes_back (P := Tryz.prog) w 71 9 5 ⟨b, 0, none⟩ c X Tryz.underlying71 Tryz.underlying5 Tryz.underlying9 (by
    intro j hj
    rw [add_none, Nat.zero_add, h.cell j hj]
    simp [List.getD, hj])
theorem drop_nines (k : Nat) (R : List UInt8) : (List.replicate k (57 : UInt8) ++ R).dropWhile (fun x => x == 57) = R.dropWhile (fun x => x == 57) := by
  induction k with
  | zero => simp
  | succ k ih => rw [List.replicate_succ, List.cons_append, List.dropWhile_cons_of_pos (by simp), ih]
theorem rs_hit (A : List UInt8) (c : UInt8) (k : Nat) (hc : c ≠ 57) : rsL (A ++ [c] ++ List.replicate k 57) = A ++ (c + 1) :: List.replicate k 48 := by
  have ht : Lib.trimRightB (A ++ [c] ++ List.replicate k 57) 57 = A ++ [c] := by
    unfold Lib.trimRightB
    rw [List.reverse_append, List.reverse_replicate, drop_nines, List.reverse_append, List.reverse_singleton, List.singleton_append, List.dropWhile_cons_of_neg (by simpa using hc)]
    simp
  unfold rsL
  rw [ht]
  simp
  omega
theorem rs_all (k : Nat) : rsL (List.replicate k 57) = 49 :: List.replicate k 48 := by
  have ht : Lib.trimRightB (List.replicate k 57) 57 = [] := by
    unfold Lib.trimRightB
    rw [List.reverse_replicate]
    have := drop_nines k []
    rw [List.append_nil] at this
    rw [this]
    rfl
  unfold rsL
  rw [ht]
  simp
set_option maxRecDepth 100000 in
set_option maxHeartbeats 2000000 in
theorem rraised_any (L : List UInt8) (hd : ∀ z ∈ L, 48 ≤ z.toNat ∧ z.toNat ≤ 57) (hl : L.length ≤ 900) (w : World) : Calls Tryz.prog 37 #[.string (baL L)] w fun e w' => e = .returned (.string (baL (rsL L))) ∧ Fr noB w w' := by
  obtain ⟨c, W0, hcv, hC0, hF0, hz0⟩ := bytes_of (baL L) w
  rw [baL_size] at hcv hC0
  have hget : ∀ j, j < L.length → ((baL L).get! j).toNat = (L.getD j 0).toNat := by
    intro j hj
    rw [get_data (baL L) j (by rw [baL_size]; exact hj)]
    simp [baL, List.getD, hj]
  have HC0 : Hid (CellsB W0 w.heap.size L.length (fun j => (L.getD j 0).toNat)) := hC0.congr hget
  obtain ⟨RS, hRS⟩ : ∃ R, baL (rsL L) = R := ⟨_, rfl⟩
  have HRS : Hid (baL (rsL L) = RS) := hRS
  rw [hRS]
  have HF0 : Hid (Fr noB w W0) := hF0
  have hn : L.length ≤ 900 := hl
  clear hRS hC0 hget hF0 hl
  obtain ⟨n, hnn⟩ : ∃ n, L.length = n := ⟨_, rfl⟩
  rw [hnn] at hcv hn
  have HN : Hid (L.length = n) := hnn
  have HDD : Hid _ := hd
  clear hnn hd
  generalize baL L = D at *
  go_enter Tryz.func37, Tryz.ntmps37
  go_wp2_with fail
  clear hcv
  go_loopw [4] (fun iv wr => ∃ (k j : Nat), iv = .int .i64 ((j : Int) - 1) ∧ j + k = n ∧ Hid (∃ A, L = A ++ List.replicate k 57 ∧ A.length = j) ∧ Hid (CellsB wr w.heap.size n (fun i => if i < j then (L.getD i 0).toNat else 48)) ∧ Fr noB w wr) (fun iv _ => (intOf iv + 1).toNat)
  case atStart => exact ⟨0, n, rfl, rfl, ⟨L, by simp, HN.out⟩, (HN.out ▸ HC0.out).congr (fun j hj => by rw [if_pos hj]), HF0.out⟩
  case round =>
    obtain ⟨k, j, rfl, hjk, HA, HC, hF⟩ := hrel
    obtain ⟨A, hA, hAl⟩ := HA.out
    cases j with
    | zero =>
      obtain rfl : A = [] := List.eq_nil_of_length_eq_zero hAl
      obtain rfl : k = n := by omega
      have hX : CellsB wr w.heap.size (List.replicate k (48 : UInt8)).length (fun i => ((List.replicate k (48 : UInt8)).getD i 0).toNat) := by
        rw [List.length_replicate]
        refine HC.out.congr (fun i hi => ?_)
        rw [if_neg (by omega)]
        simp [List.getD, hi]
      have hb := back_list (List.replicate k 48) wr w.heap.size c hX
      rw [List.length_replicate] at hb
      have a1 : (⟨#[49]⟩ : ByteArray) ++ baL (List.replicate k 48) = RS := by
        rw [← HRS.out, hA, List.nil_append, rs_all]
        exact baL_append [49] _
      have z1 : (baL (List.replicate k (48 : UInt8))).size ≤ 900 := by rw [baL_size]; simp; omega
      generalize baL (List.replicate k 48) = NB at *
      clear HC hX hA HA
      go_wp2_with fail
      go_ret
      exact ⟨rfl, hF⟩
    | succ j =>
      obtain ⟨A', x, rfl⟩ : ∃ A' x, A = A' ++ [x] := by
        rcases List.eq_nil_or_concat A with rfl | ⟨A', x, h⟩
        · simp at hAl
        · exact ⟨A', x, by simpa using h⟩
      have hA'l : A'.length = j := by simpa using hAl
      have hgj : L.getD j 0 = x := by
        rw [hA, ← hA'l]
        simp [List.getD]
      have hxd := HDD.out x (by rw [hA]; simp)
      have c1 := HC.out.cell j (by omega)
      have f1 := HC.out.free j (by omega)
      rw [if_pos (by omega), hgj] at c1
      have hjn : j + 1 + k = n := hjk
      have ei : ((j + 1 : Nat) : Int) - 1 = (j : Int) := by omega
      rw [ei]
      by_cases h57 : x = 57
      · have q : ((x.toNat : Int) != 57) = false := by subst h57; rfl
        have HA2 : Hid (∃ A, L = A ++ List.replicate (k + 1) 57 ∧ A.length = j) := ⟨A', by rw [hA, h57, List.replicate_succ]; simp, hA'l⟩
        have HC2 : Hid (CellsB (wr.setCell ⟨w.heap.size, j, none⟩ (.int .u8 48)) w.heap.size n (fun i => if i < j then (L.getD i 0).toNat else 48)) := by
          refine (HC.out.set j 48).congr (fun i hi => ?_)
          by_cases e : i = j
          · rw [if_pos e, if_neg (by omega)]
          · rw [if_neg e]
            by_cases h3 : i < j
            · rw [if_pos (by omega), if_pos h3]
            · rw [if_neg (by omega), if_neg h3]
        have hF2 : Fr noB w (wr.setCell ⟨w.heap.size, j, none⟩ (.int .u8 48)) := hF.setCell _ (Or.inr (Nat.le_refl _)) _
        generalize x.toNat = xn at *
        clear HC hA HA h57 hgj hAl ei
        go_wp2_with fail
        go_roundw
        case rel => exact ⟨k + 1, j, rfl, by omega, HA2, HC2, hF2⟩
        case measure => simp [intOf]
      · have q : ((x.toNat : Int) != 57) = true := by
          have : x.toNat ≠ 57 := fun h => h57 (UInt8.toNat_inj.1 h)
          simp
          omega
        have hX : CellsB (wr.setCell ⟨w.heap.size, j, none⟩ (.int .u8 ((x.toNat + 1 : Nat) : Int))) w.heap.size (A' ++ (x + 1) :: List.replicate k (48 : UInt8)).length (fun i => ((A' ++ (x + 1) :: List.replicate k (48 : UInt8)).getD i 0).toNat) := by
          have hlen : (A' ++ (x + 1) :: List.replicate k (48 : UInt8)).length = n := by simp; omega
          rw [hlen]
          refine (HC.out.set j (x.toNat + 1)).congr (fun i hi => ?_)
          have hx1 : (x + 1).toNat = x.toNat + 1 := by
            rw [UInt8.toNat_add]
            have : (1 : UInt8).toNat = 1 := rfl
            omega
          by_cases e : i = j
          · subst e
            rw [if_pos rfl]
            simp [List.getD, ← hA'l, hx1]
          · rw [if_neg e]
            by_cases h3 : i < j
            · rw [if_pos (by omega), hA]
              simp [List.getD, List.getElem?_append_left (show i < A'.length by omega), List.append_assoc]
            · rw [if_neg (by omega)]
              obtain ⟨d, rfl⟩ : ∃ d, i = j + 1 + d := ⟨i - j - 1, by omega⟩
              have hd2 : d < k := by omega
              simp only [List.getD]
              rw [List.getElem?_append_right (by omega), hA'l, show j + 1 + d - j = d + 1 by omega, List.getElem?_cons_succ, List.getElem?_replicate, if_pos hd2]
              rfl
        have hb := back_list _ _ w.heap.size c hX
        have hlen : (A' ++ (x + 1) :: List.replicate k (48 : UInt8)).length = n := by simp; omega
        rw [hlen] at hb
        rw [show baL (A' ++ (x + 1) :: List.replicate k 48) = RS by rw [← HRS.out, hA, rs_hit A' x k h57]] at hb
        have hF2 : Fr noB w (wr.setCell ⟨w.heap.size, j, none⟩ (.int .u8 ((x.toNat + 1 : Nat) : Int))) := hF.setCell _ (Or.inr (Nat.le_refl _)) _
        rw [show ((x.toNat + 1 : Nat) : Int) = (x.toNat : Int) + 1 by omega] at hb hF2
        generalize x.toNat = xn at *
        clear HC hA HA h57 hgj hAl ei hX hlen
        go_wp2_with fail
        go_ret
        exact ⟨rfl, hF2⟩
#print axioms rraised_any
end Go.Proofs.YtnklmcmdlobicaaGreatDoor
