/- Large letters: the program's contract and the document's. -/
import Derived.Test.YthokhnbecgkpbaaDoorCBas2
import Derived.Laws.IdiomStrings
import Derived.Lib.OthersKept
namespace Go.Proofs.YthokhnbecgkpbaaDoor
open Go.RowKit

set_option maxRecDepth 100000 in
theorem cont_high (s : ByteArray) (p q : Nat) (h1 : p < q) (h2 : q < p + (Utf8.decode s p).2) : 128 ≤ (s.get! q).toNat := by
  obtain ⟨k, rfl⟩ : ∃ k, q = p + k := ⟨q - p, by omega⟩
  have hw := width_4 s p
  have h0 : (s.get! p).toNat < 256 := (s.get! p).toNat_lt
  rw [Lib.decode_at] at h2 hw
  unfold Lib.decodeN at h2 hw
  have hk : k = 1 ∨ k = 2 ∨ k = 3 := by omega
  clear hw
  rcases hk with rfl | rfl | rfl
  all_goals
    repeat' split at h2
    all_goals simp only at h2
    all_goals omega
theorem dec_ascii (s : ByteArray) (p : Nat) (h : (s.get! p).toNat < 128) : Utf8.decode s p = ((s.get! p).toNat, 1) := by
  rw [Lib.decode_at]
  unfold Lib.decodeN
  rw [if_pos h]
set_option maxRecDepth 100000 in
theorem dec_low (s : ByteArray) (p : Nat) (h : (Utf8.decode s p).1 < 128) : (s.get! p).toNat < 128 ∧ (Utf8.decode s p).1 = (s.get! p).toNat ∧ (Utf8.decode s p).2 = 1 := by
  have h0 : (s.get! p).toNat < 256 := (s.get! p).toNat_lt
  by_cases ha : (s.get! p).toNat < 128
  · rw [dec_ascii s p ha]; exact ⟨ha, rfl, rfl⟩
  · exfalso
    rw [Lib.decode_at] at h
    unfold Lib.decodeN at h
    rw [if_neg ha] at h
    repeat' split at h
    all_goals simp only at h
    all_goals omega
/-- A letter moved. -/
def mvF (a b t x : Nat) : Nat := if a ≤ x ∧ x ≤ b then x - a + t else x
def mvB (a b t : Nat) (s : ByteArray) : ByteArray := ⟨(s.data.toList.map fun x => UInt8.ofNat (mvF a b t x.toNat)).toArray⟩
theorem get_data (s : ByteArray) (j : Nat) (h : j < s.size) : s.get! j = s.data[j]'h := by
  show s.data[j]! = _
  exact getElem!_pos _ _ _
/-- The bytes that a block begins with. -/
structure CellsB (w : World) (b n : Nat) (g : Nat → Nat) : Prop where
  ex : ∃ cs fz, w.heap[b]? = some (.cells cs 5 fz) ∧ n ≤ fz.1 ∧ ∀ j, j < n → cs[j]? = some (.int .u8 ((g j : Nat) : Int))
theorem CellsB.cell {w : World} {b n : Nat} {g : Nat → Nat} (h : CellsB w b n g) (j : Nat) (hj : j < n) : w.cell? ⟨b, j, none⟩ = some (.int .u8 ((g j : Nat) : Int)) := by
  obtain ⟨⟨cs, fz, h1, h2, h3⟩⟩ := h
  simp [World.cell?, h1, h3 j hj]
theorem CellsB.free {w : World} {b n : Nat} {g : Nat → Nat} (h : CellsB w b n g) (j : Nat) (hj : j < n) : w.frozen? ⟨b, j, none⟩ = false := by
  obtain ⟨⟨cs, fz, h1, h2, h3⟩⟩ := h
  simp [World.frozen?, h1]
  omega
theorem CellsB.obj {w w' : World} {b n : Nat} {g : Nat → Nat} (h : CellsB w b n g) (hk : w'.heap[b]? = w.heap[b]?) : CellsB w' b n g := by
  obtain ⟨⟨cs, fz, h1, h2⟩⟩ := h
  exact ⟨⟨cs, fz, hk.trans h1, h2⟩⟩
theorem CellsB.set {w : World} {b n : Nat} {g : Nat → Nat} (h : CellsB w b n g) (j v : Nat) : CellsB (w.setCell ⟨b, j, none⟩ (.int .u8 ((v : Nat) : Int))) b n (fun i => if i = j then v else g i) := by
  obtain ⟨⟨cs, fz, h1, h2, h3⟩⟩ := h
  refine ⟨⟨cs.setIfInBounds j (.int .u8 ((v : Nat) : Int)), fz, ?_, h2, fun i hi => ?_⟩⟩
  · have hlt := lt_of_block h1
    have h' : w.heap[b] = .cells cs 5 fz := by simpa [Array.getElem?_eq_getElem hlt] using h1
    show (w.heap.modify b _)[b]? = _
    rw [Array.getElem?_eq_getElem (by simpa using hlt), Array.getElem_modify_self, h']
    rfl
  · have := h3 i hi
    by_cases e : j = i
    · subst e
      have hl : j < cs.size := (Array.getElem?_eq_some_iff.1 this).1
      simp [hl]
    · rw [Array.getElem?_setIfInBounds_ne e, this]
      simp [show ¬ i = j by omega]
theorem CellsB.congr {w : World} {b n : Nat} {g g' : Nat → Nat} (h : CellsB w b n g) (e : ∀ j, j < n → g j = g' j) : CellsB w b n g' := by
  obtain ⟨⟨cs, fz, h1, h2, h3⟩⟩ := h
  exact ⟨⟨cs, fz, h1, h2, fun j hj => by rw [h3 j hj, e j hj]⟩⟩
theorem bytes_of (s : ByteArray) (w : World) : ∃ c W0, (convert 9 75 (.string s)).run Tryd.prog w = .ok (.slice (some ⟨w.heap.size, 0, none⟩) s.size c) W0 ∧ CellsB W0 w.heap.size s.size (fun j => (s.get! j).toNat) ∧ Fr noB w W0 ∧ W0.heap.size = w.heap.size + 1 := by
  refine ⟨_, _, run_bytes_of_string w 9 75 5 s Tryd.underlying9 Tryd.underlying75 Tryd.underlying5, ?_, ((Fr.refl noB w).drew).alloc _, by simp⟩
  refine ⟨⟨_, _, heap_alloc_new w.drew _, ?_, fun j hj => ?_⟩⟩
  · simp [bytesRow]
  · have e : s.get! j = s.data[j]'hj := get_data s j hj
    have hj' : j < s.data.size := hj
    show _ = some (Value.int .u8 (((s.get! j).toNat : Nat) : Int))
    rw [e]
    simp [bytesRow, Array.getElem?_append]
    rw [if_pos hj, Array.getElem?_eq_getElem hj']
    rfl
theorem back_of (s : ByteArray) (w : World) (b c : Nat) (a z t : Nat) (h : CellsB w b s.size (fun j => mvF a z t (s.get! j).toNat)) (hm : ∀ x, x < 256 → mvF a z t x < 256) : (convert 75 9 (.slice (some ⟨b, 0, none⟩) s.size c)).run Tryd.prog w = .ok (.string (mvB a z t s)) w := by
  have := run_convert_bytes_back (P := Tryd.prog) w 75 9 5 ⟨b, 0, none⟩ c (s.data.toList.map fun x => UInt8.ofNat (mvF a z t x.toNat)) Tryd.underlying75 Tryd.underlying5 Tryd.underlying9 (by
    intro j hj
    have hj' : j < s.size := by simpa using hj
    rw [add_none, Nat.zero_add, h.cell j hj']
    have e : s.get! j = s.data[j]'hj' := get_data s j hj'
    rw [e]
    have := hm _ (s.data[j]'hj').toNat_lt
    simp
    omega)
  rw [show (s.data.toList.map fun x => UInt8.ofNat (mvF a z t x.toNat)).length = s.size by simp] at this
  exact this
set_option maxRecDepth 100000 in
set_option maxHeartbeats 1000000 in
theorem cased_any (s : ByteArray) (a t : Nat) (w : World) (hs : s.size ≤ 140737488355328) (ha : a = 97 ∧ t = 65 ∨ a = 65 ∧ t = 97) :
    Calls Tryd.prog 49 #[.string s, .int .u8 (a : Int), .int .u8 (t : Int)] w fun e w' => e = .returned (.string (mvB a (a + 25) t s)) ∧ Fr noB w w' := by
  obtain ⟨c, W0, hcv, hC0, hF0, hz0⟩ := bytes_of s w
  have hm : ∀ x, x < 256 → mvF a (a + 25) t x < 256 := by intro x hx; unfold mvF; split <;> omega
  have HM : Hid _ := hm
  have ha1 : a + 26 < 256 := by omega
  have ha2 : a ≤ 97 := by omega
  have ha3 : t ≤ 97 := by omega
  have ha4 : 65 ≤ a := by omega
  clear hm ha
  go_enter Tryd.func49, Tryd.ntmps49
  go_wp2
  clear hcv
  go_loopw [8] (fun iv wr => ∃ k : Nat, k ≤ s.size ∧ iv = .int .i64 (k : Int) ∧ CellsB wr w.heap.size s.size (fun j => if j < k then mvF a (a + 25) t (s.get! j).toNat else (s.get! j).toNat) ∧ Fr noB w wr) (fun iv _ => s.size - (intOf iv).toNat)
  case atStart => exact ⟨0, Nat.zero_le _, rfl, hC0.congr (fun j _ => by simp), hF0⟩
  case round =>
    clear hC0 hF0
    obtain ⟨k, hk, rfl, hC, hF⟩ := hrel
    by_cases hlt : k < s.size
    · have c1 := hC.cell k hlt
      have f1 := hC.free k hlt
      simp only [Nat.lt_irrefl, if_false] at c1
      have hx256 : (s.get! k).toNat < 256 := (s.get! k).toNat_lt
      obtain ⟨x, hx⟩ : ∃ x, (s.get! k).toNat = x := ⟨_, rfl⟩
      rw [hx] at c1 hx256
      have HX : Hid ((s.get! k).toNat = x) := hx
      have HC : Hid _ := hC
      clear hx hC
      by_cases h1 : a ≤ x
      · by_cases h2 : x < a + 26
        · have HC2 : Hid (CellsB (wr.setCell ⟨w.heap.size, k, none⟩ (.int .u8 ((x - a + t : Nat) : Int))) w.heap.size s.size (fun j => if j < k + 1 then mvF a (a + 25) t (s.get! j).toNat else (s.get! j).toNat)) := by
            refine (HC.out.set k (x - a + t)).congr (fun j hj => ?_)
            by_cases e : j = k
            · subst e
              simp only [if_true, Nat.lt_succ_self]
              rw [HX.out]
              unfold mvF
              rw [if_pos ⟨h1, by omega⟩]
            · simp only [e, if_false]
              by_cases h3 : j < k
              · rw [if_pos h3, if_pos (by omega)]
              · rw [if_neg h3, if_neg (by omega)]
          have hF2 : Fr noB w (wr.setCell ⟨w.heap.size, k, none⟩ (.int .u8 ((x - a + t : Nat) : Int))) := hF.setCell _ (Or.inr (Nat.le_refl _)) _
          have hv : ((x - a + t : Nat) : Int) = (x : Int) - a + t := by omega
          rw [hv] at HC2 hF2
          clear hv
          go_wp2
          go_roundw
          case rel => exact ⟨k + 1, by omega, by go_num, HC2.out, hF2⟩
          case measure => simp [intOf]; omega
        · have HC2 : Hid (CellsB wr w.heap.size s.size (fun j => if j < k + 1 then mvF a (a + 25) t (s.get! j).toNat else (s.get! j).toNat)) := by
            refine HC.out.congr (fun j hj => ?_)
            by_cases e : j = k
            · subst e
              simp only [Nat.lt_irrefl, if_false, Nat.lt_succ_self, if_true]
              rw [HX.out]
              unfold mvF
              rw [if_neg (by omega)]
            · by_cases h3 : j < k
              · rw [if_pos h3, if_pos (by omega)]
              · rw [if_neg h3, if_neg (by omega)]
          go_wp2
          go_roundw
          case rel => exact ⟨k + 1, by omega, by go_num, HC2.out, hF⟩
          case measure => simp [intOf]; omega
      · have HC2 : Hid (CellsB wr w.heap.size s.size (fun j => if j < k + 1 then mvF a (a + 25) t (s.get! j).toNat else (s.get! j).toNat)) := by
          refine HC.out.congr (fun j hj => ?_)
          by_cases e : j = k
          · subst e
            simp only [Nat.lt_irrefl, if_false, Nat.lt_succ_self, if_true]
            rw [HX.out]
            unfold mvF
            rw [if_neg (by omega)]
          · by_cases h3 : j < k
            · rw [if_pos h3, if_pos (by omega)]
            · rw [if_neg h3, if_neg (by omega)]
        go_wp2
        go_roundw
        case rel => exact ⟨k + 1, by omega, by go_num, HC2.out, hF⟩
        case measure => simp [intOf]; omega
    · have hb := back_of s wr w.heap.size c a (a + 25) t (hC.congr (fun j hj => by rw [if_pos (by omega)])) HM.out
      clear hC
      go_wp2
      go_ret
      exact ⟨rfl, hF⟩
/-- Outside of the letters nothing moves. -/
theorem mv_high (a z t x : Nat) (h : 128 ≤ x) (hz : z < 128) : mvF a z t x = x := by unfold mvF; rw [if_neg (by omega)]
set_option maxRecDepth 100000 in
set_option maxHeartbeats 2000000 in
theorem moved_any (s : ByteArray) (a t : Nat) (w : World) (ha : a = 97 ∧ t = 65 ∨ a = 65 ∧ t = 97) :
    Calls Tryd.prog 48 #[.string s, .int .i32 (a : Int), .int .i32 ((a + 25 : Nat) : Int), .int .i32 (t : Int)] w fun e w' => e = .returned (.string (mvB a (a + 25) t s)) ∧ Fr noB w w' := by
  obtain ⟨c, W0, hcv, hC0, hF0, hz0⟩ := bytes_of s w
  have hm : ∀ x, x < 256 → mvF a (a + 25) t x < 256 := by intro x hx; unfold mvF; split <;> omega
  have HM : Hid (∀ x, x < 256 → mvF a (a + 25) t x < 256) := hm
  have ha1 : a + 26 < 128 := by omega
  have ha2 : a ≤ 97 := by omega
  have ha3 : t ≤ 97 := by omega
  have ha4 : 65 ≤ a := by omega
  have ha5 : 65 ≤ t := by omega
  clear hm ha
  have hit0 : (W0.iter s 0).heap[w.heap.size + 1]? = some (.stringIter s 0) := by rw [← hz0]; exact World.iter_heap W0 s 0
  have hC1 : CellsB (W0.iter s 0) w.heap.size s.size (fun j => (s.get! j).toNat) := hC0.obj (Below.heap_alloc _ _ _ (by omega))
  have hF1 : Fr noB w (W0.iter s 0) := hF0.alloc _
  have HIT : Hid _ := hit0
  have HZ : Hid (W0.heap.size = w.heap.size + 1) := hz0
  clear hC0 hF0 hit0
  obtain ⟨z, hz⟩ : ∃ z, a + 25 = z := ⟨_, rfl⟩
  rw [hz] at HM ⊢
  have HZ2 : Hid (a + 25 = z) := hz
  have hzz : z < 128 := by omega
  clear hz
  rw [hz0.symm] at HIT
  clear hz0
  go_enter Tryd.func48, Tryd.ntmps48
  go_wp2
  clear hcv
  go_loopw [] (fun wr => ∃ pos : Nat, wr.heap[W0.heap.size]? = some (.stringIter s pos) ∧ pos ≤ s.size ∧ CellsB wr w.heap.size s.size (fun j => if j < pos then mvF a z t (s.get! j).toNat else (s.get! j).toNat) ∧ Fr noB w wr) (fun wr => s.size - wr.iterPos W0.heap.size)
  case atStart => exact ⟨0, HIT.out, Nat.zero_le _, hC1.congr (fun j _ => by simp), hF1⟩
  case round =>
    clear hC1 hF1 HIT
    obtain ⟨pos, hit, hps, hC, hF⟩ := hrel
    by_cases hp : pos < s.size
    · have hnx : ∀ ty, (Instr.next (.pointer (some ⟨W0.heap.size, 0, none⟩)) true ty).run Tryd.prog wr = _ := fun ty => Lib.run_next_any_at wr W0.heap.size s pos ty hit hp
      have hwd := width_pos s pos hp
      have hwf := width_fits s pos hp
      have hlow := dec_low s pos
      have hcont := cont_high s pos
      have hhigh : 128 ≤ (Utf8.decode s pos).1 → 128 ≤ (s.get! pos).toNat := by
        intro h
        rcases Nat.lt_or_ge (s.get! pos).toNat 128 with h' | h'
        · rw [dec_ascii s pos h'] at h; simp only at h; omega
        · exact h'
      have hit2 := Lib.iterAt_heap wr W0.heap.size s pos (pos + (Utf8.decode s pos).2) hit
      have hC2 := hC.obj (Lib.iterAt_other wr W0.heap.size w.heap.size s (pos + (Utf8.decode s pos).2) (by have := HZ.out; omega))
      have hF2 : Fr noB w (wr.iterAt W0.heap.size s (pos + (Utf8.decode s pos).2)) := hF.then (S' := oneB W0.heap.size) ⟨rfl, rfl, rfl, by rw [Lib.iterAt_size]; exact Nat.le_refl _, fun i hi hn => Lib.iterAt_other wr W0.heap.size i s _ (fun e => hn e)⟩ (fun i h => Or.inr (by have := HZ.out; unfold oneB at h; omega))
      obtain ⟨⟨r, n⟩, hdd⟩ : ∃ x, Utf8.decode s pos = x := ⟨_, rfl⟩
      rw [hdd] at hnx hwd hwf hlow hcont hhigh hit2 hC2 hF2
      simp only at hnx hwd hwf hlow hcont hhigh hit2 hC2 hF2
      generalize hW2 : wr.iterAt W0.heap.size s (pos + n) = W2 at *
      have hm2 : s.size - W2.iterPos W0.heap.size < s.size - wr.iterPos W0.heap.size := by
        simp only [World.iterPos, hit2, hit]
        omega
      clear hit hC hF hW2 hdd
      have HBT := between_any (r : Int) (a : Int) (z : Int)
      by_cases hr : a ≤ r ∧ r ≤ z
      · obtain ⟨hr1, hr2⟩ := hr
        obtain ⟨hlo, hget, rfl⟩ := hlow (by omega)
        have hbt : btw (r : Int) (a : Int) (z : Int) = true := by unfold btw; rw [decide_eq_true (by omega), decide_eq_true (by omega)]; rfl
        rw [hbt] at HBT
        have c1 := hC2.cell pos hp
        have f1 := hC2.free pos hp
        simp only [Nat.lt_irrefl, if_false] at c1
        have HC3 : Hid (CellsB (W2.setCell ⟨w.heap.size, pos, none⟩ (.int .u8 ((r - a + t : Nat) : Int))) w.heap.size s.size (fun j => if j < pos + 1 then mvF a z t (s.get! j).toNat else (s.get! j).toNat)) := by
          refine (hC2.set pos (r - a + t)).congr (fun j hj => ?_)
          by_cases e : j = pos
          · subst e
            simp only [if_true, Nat.lt_succ_self]
            rw [← hget]
            unfold mvF
            rw [if_pos ⟨hr1, hr2⟩]
          · simp only [e, if_false]
            by_cases h3 : j < pos
            · rw [if_pos h3, if_pos (by omega)]
            · rw [if_neg h3, if_neg (by omega)]
        have hF3 : Fr noB w (W2.setCell ⟨w.heap.size, pos, none⟩ (.int .u8 ((r - a + t : Nat) : Int))) := hF2.setCell _ (Or.inr (Nat.le_refl _)) _
        have hit3 : (W2.setCell ⟨w.heap.size, pos, none⟩ (.int .u8 ((r - a + t : Nat) : Int))).heap[W0.heap.size]? = some (.stringIter s (pos + 1)) := by
          rw [Below.heap_setCell _ _ _ _ (by have := HZ.out; simp only; omega)]
          exact hit2
        have hv : ((r - a + t : Nat) : Int) = (r : Int) - a + t := by omega
        rw [hv] at HC3 hF3 hit3
        have hvb : (r : Int) - a + t < 256 := by omega
        have hvc : (0 : Int) ≤ (r : Int) - a + t := by omega
        have HI3 : Hid _ := hit3
        have HMM : Hid (s.size - W2.iterPos W0.heap.size < s.size - wr.iterPos W0.heap.size) := hm2
        have HI2 : Hid _ := hit2
        clear hv hbt hlow hcont hhigh hget hC2 hF2 hit3 hit2 hm2
        go_wp2_with (go_at_call 59; with_reducible refine (HBT _).mono ?_; rintro e w3 ⟨rfl, rfl⟩)
        go_roundw
        case rel => exact ⟨pos + 1, HI3.out, by omega, HC3.out, hF3⟩
        case measure =>
          have e1 := HI3.out
          have e2 := HI2.out
          have e3 := HMM.out
          simp only [World.iterPos, e1, e2] at e3 ⊢
          exact e3
      · have hbt : btw (r : Int) (a : Int) (z : Int) = false := by
          unfold btw
          by_cases h : (a : Int) ≤ r
          · rw [decide_eq_true h, decide_eq_false (by omega)]; rfl
          · rw [decide_eq_false h]; rfl
        rw [hbt] at HBT
        have HC3 : Hid (CellsB W2 w.heap.size s.size (fun j => if j < pos + n then mvF a z t (s.get! j).toNat else (s.get! j).toNat)) := by
          refine hC2.congr (fun j hj => ?_)
          by_cases h3 : j < pos
          · rw [if_pos h3, if_pos (by omega)]
          · by_cases h4 : j < pos + n
            · rw [if_neg h3, if_pos h4]
              by_cases e : j = pos
              · subst e
                by_cases h128 : r < 128
                · obtain ⟨_, hget, _⟩ := hlow h128
                  rw [← hget]
                  unfold mvF
                  rw [if_neg hr]
                · rw [mv_high _ _ _ _ (hhigh (by omega)) hzz]
              · rw [mv_high _ _ _ _ (hcont j (by omega) h4) hzz]
            · rw [if_neg h3, if_neg h4]
        have HI2 : Hid _ := hit2
        have HMM : Hid (s.size - W2.iterPos W0.heap.size < s.size - wr.iterPos W0.heap.size) := hm2
        clear hbt hlow hcont hhigh hC2 hit2 hm2 hr
        go_wp2_with (go_at_call 59; with_reducible refine (HBT _).mono ?_; rintro e w3 ⟨rfl, rfl⟩)
        go_roundw
        case rel => exact ⟨pos + n, HI2.out, hwf, HC3.out, hF2⟩
        case measure => exact HMM.out
    · have hnx : ∀ ty, (Instr.next (.pointer (some ⟨W0.heap.size, 0, none⟩)) true ty).run Tryd.prog wr = _ := fun ty => Lib.run_next_end_at wr W0.heap.size s pos ty hit hp
      have hb := back_of s wr w.heap.size c a z t (hC.congr (fun j hj => by rw [if_pos (by omega)])) HM.out
      clear hC
      go_wp2
      go_ret
      exact ⟨rfl, hF⟩
#print axioms moved_any
set_option maxRecDepth 100000 in
theorem upper_any (s : ByteArray) (w : World) : Calls Tryd.prog 34 #[.string s] w fun e w' => e = .returned (.string (mvB 97 122 65 s)) ∧ Fr noB w w' := by
  have H := moved_any s 97 65 w (Or.inl ⟨rfl, rfl⟩)
  go_enter Tryd.func34, Tryd.ntmps34
  go_wp2_with (go_at_call 48; refine H.mono ?_; rintro e w1 ⟨rfl, hF⟩)
  go_ret
  exact ⟨rfl, hF⟩
set_option maxRecDepth 100000 in
theorem rupper_any (s : ByteArray) (w : World) (hs : s.size ≤ 140737488355328) : Calls Tryd.prog 35 #[.string s] w fun e w' => e = .returned (.string (mvB 97 122 65 s)) ∧ Fr noB w w' := by
  have H := cased_any s 97 65 w hs (Or.inl ⟨rfl, rfl⟩)
  go_enter Tryd.func35, Tryd.ntmps35
  go_wp2_with (go_at_call 49; refine H.mono ?_; rintro e w1 ⟨rfl, hF⟩)
  go_ret
  exact ⟨rfl, hF⟩
#print axioms upper_any
#print axioms rupper_any
end Go.Proofs.YthokhnbecgkpbaaDoor
