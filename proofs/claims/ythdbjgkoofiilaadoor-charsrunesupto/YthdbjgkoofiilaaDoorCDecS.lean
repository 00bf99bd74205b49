/- The document's reading of a text: DecodeRuneInString by its contract; Runes. -/
import Derived.Test.YthdbjgkoofiilaaDoorCBas2
import Derived.Test.YthdbjgkoofiilaaDoorCTxM
import Derived.Test.YthdbjgkoofiilaaDoorShelf
import Derived.Laws.AppendOwn
import Derived.Laws.OwnMore
import Derived.OwnWalk
namespace Go.Proofs.YthdbjgkoofiilaaDoor
open Go.RowKit Go.Shelf

/-- The tables of utf8, as they are laid. -/
def Tabs (w : World) : Prop := Lib.Utf8Tabs (Tryd.lays197_ren.g 3) (Tryd.lays197_ren.g 4) w
theorem lt_of_cell {w : World} {a : Addr} {v : Value} (h : w.cell? a = some v) : a.block < w.heap.size := by
  rcases Nat.lt_or_ge a.block w.heap.size with h' | h'
  · exact h'
  · simp [World.cell?, Array.getElem?_eq_none h'] at h
theorem Tabs.keep {w w' : World} (h : Tabs w) (hF : Fr noB w w') : Tabs w' := by
  refine ⟨fun c hc => ?_, fun i hi => ⟨?_, ?_⟩⟩
  · have := h.1 c hc
    rw [← this]
    exact hF.cell (lt_of_cell this) id
  · have := (h.2 i hi).1
    rw [← this]
    exact hF.cell (lt_of_cell this) id
  · have := (h.2 i hi).2
    rw [← this]
    exact hF.cell (lt_of_cell this) id
theorem dec_any (s : ByteArray) (p : Nat) (hp : p < s.size) (w : World) (hT : Tabs w) :
    Calls Tryd.prog 11 #[.string (s.extract p s.size)] w fun e w' => e = .returned (.tuple #[.int .i32 ((Utf8.decode s p).1 : Int), .int .i64 ((Utf8.decode s p).2 : Int)]) ∧ Fr noB w w' := by
  have e : Lib.decodeGo (s.extract p s.size) = Utf8.decode s p := by
    unfold Lib.decodeGo
    rw [if_neg (by rw [tail_size]; omega), tail_decode, Nat.add_zero]
  refine (show Calls Tryd.prog 11 _ w _ from Any.utf8_DecodeRuneInString Tryd.lays197 (s.extract p s.size) w hT).mono ?_
  rintro e' w' ⟨h1, h2⟩
  rw [e] at h1
  exact ⟨h1, Fr.ofBelow h2⟩

theorem own_keep {base e size n : Nat} {v : Value} {xs : List Value} {w w' : World} (h : w.ownsRow base e size v n xs) (hf : Fr noB w w') : w'.ownsRow base e size v n xs := by
  refine ⟨h.1, ?_⟩
  rcases h.2 with h0 | ⟨g, cap, cur, hv, hb, hg, r⟩
  · exact .inl h0
  · exact .inr ⟨g, cap, cur, hv, hb, hf.obj hg id, r⟩
theorem own_form {base e n : Nat} {v : Value} {xs : List Value} {w : World} (h : w.ownsRow base e 1 v n xs) : ∃ so sc, v = .slice so n sc := by
  rcases h.2 with ⟨hv, h0⟩ | ⟨g, cap, cur, hv, _⟩
  · exact ⟨none, 0, by rw [hv, h0]⟩
  · exact ⟨_, _, hv⟩
theorem one_src (w : World) (x : Value) (t : TypeId) : ∀ j u, [x][j]? = some u → (w.alloc (.cells #[x] t (0, 0))).cell? ((⟨w.heap.size, 0, none⟩ : Addr).add j) = some u := by
  intro j u hj
  match j, hj with
  | 0, hj =>
    simp at hj
    subst hj
    rw [add_none]
    exact cellOf (heap_alloc_new _ _) (by simp)
  | j + 1, hj => simp at hj
theorem info32 : (Tryd.prog.info? 21).map (fun i => (i.zero, i.size, i.bytes)) = some (some (.int .i32 0), 1, 4) := by kernel_rfl
theorem info64 : (Tryd.prog.info? 3).map (fun i => (i.zero, i.size, i.bytes)) = some (some (.int .i64 0), 1, 8) := by kernel_rfl
/-- Numbers as values. -/
def nV (k : IntKind) (D : List Nat) : List Value := D.map fun x : Nat => Value.int k (x : Int)
@[simp] theorem nV_length (k : IntKind) (D : List Nat) : (nV k D).length = D.length := by simp [nV]
theorem nV_app (k : IntKind) (D : List Nat) (x : Nat) : nV k D ++ [Value.int k (x : Int)] = nV k (D ++ [x]) := by simp [nV]
/-- The characters' numbers; their places. -/
def runeL (l : List (Nat × Nat × Nat)) : List Nat := l.map fun x => x.2.1
def plcL (l : List (Nat × Nat × Nat)) : List Nat := l.map fun x => x.1

set_option maxRecDepth 100000 in
set_option maxHeartbeats 2000000 in
theorem rrunes_any (s : ByteArray) (w : World) (hs : s.size ≤ 1048576) (hT : Tabs w) : Calls Tryd.prog 5 #[.string s] w fun e w' => ∃ so sc, e = .returned (.slice so (runeL (runs s 0)).length sc) ∧ w'.ownsRow w.heap.size 21 1 (.slice so (runeL (runs s 0)).length sc) (runeL (runs s 0)).length (nV .i32 (runeL (runs s 0))) ∧ Fr noB w w' := by
  obtain ⟨i0, hi, hz0, hz1, hz2⟩ := info_parts info32
  have HT : Hid (Tabs w) := hT
  clear hT
  obtain ⟨R, hR⟩ : ∃ R, runeL (runs s 0) = R := ⟨_, rfl⟩
  have HR : Hid (runeL (runs s 0) = R) := hR
  rw [hR]
  clear hR
  go_enter Tryd.func5, Tryd.ntmps5
  go_wp2
  go_loopw [3, 4] (fun lv iv wr => ∃ (pos : Nat) (D : List Nat) (so : Option Addr) (sc : Nat), lv = .slice so D.length sc ∧ iv = .int .i64 (pos : Int) ∧ wr.ownsRow w.heap.size 21 1 (.slice so D.length sc) D.length (nV .i32 D) ∧ Fr noB w wr ∧ pos ≤ s.size ∧ D.length ≤ pos ∧ Hid (D ++ runeL (runs s pos) = R)) (fun _ iv _ => s.size - (intOf iv).toNat)
  case atStart => exact ⟨0, [], none, 0, rfl, rfl, World.ownsRow_nil _ _ _ _, Fr.refl _ _, Nat.zero_le _, Nat.le_refl _, HR⟩
  case round =>
    clear HR
    obtain ⟨pos, D, so, sc, rfl, rfl, hO, hF, hps, hDl, HC⟩ := hrel
    by_cases hp : pos < s.size
    · have HD := dec_any s pos hp wr (HT.out.keep hF)
      have hwd := width_pos s pos hp
      have hwf := width_fits s pos hp
      have HC2 := HC.out
      rw [runs_step s pos hp] at HC2
      simp only [runeL, List.map_cons] at HC2
      obtain ⟨⟨r, n⟩, hd⟩ : ∃ d, Utf8.decode s pos = d := ⟨_, rfl⟩
      rw [hd] at HD hwd hwf HC2
      simp only at HD hwd hwf HC2
      have HX : Hid ((D ++ [r]) ++ runeL (runs s (pos + n)) = R) := by show _ = R; rw [← HC2, List.append_assoc]; rfl
      have HO : Hid (wr.ownsRow w.heap.size 21 1 (.slice so D.length sc) D.length (nV .i32 D)) := hO
      clear hd HC HC2 hO
      go_wp2_with (first
        | (go_at_call 11; refine HD.mono ?_; rintro e w1 ⟨rfl, hF1⟩)
        | (at_builtin; refine wpList_append_own _ rfl _ _ 23 rfl w.heap.size 21 i0 (.int .i32 0) 1 4 Tryd.underlying23 hi hz0 hz1 hz2 rfl (by decide) _ D.length (nV .i32 D) rfl ((own_keep HO.out hF1).alloc _) ⟨w1.heap.size, 0, none⟩ 1 1 [.int .i32 (r : Int)] rfl rfl (one_src w1 _ _) (by intro u hu; simp at hu; subst hu; rfl) (by unfold maxLen; omega) (by omega) (by have := hF.size; have := hF1.size; simp; omega) ?_))
      have hO1 := (own_keep HO.out hF1).alloc (.cells #[.int .i32 (r : Int)] 21 (0, 0))
      intro v' w2 hown hg _
      have hF2 : Fr noB w w2 := ((hF.trans hF1).alloc (.cells #[.int .i32 (r : Int)] 21 (0, 0))).grown hg (fun k hk => Or.inr (hO1.lt k hk).1)
      rw [nV_app] at hown
      obtain ⟨so', sc', rfl⟩ := own_form hown
      clear HD HO hO1 hg
      go_wp2
      go_roundw
      case rel => exact ⟨pos + n, D ++ [r], so', sc', by simp, by go_num, by simpa using hown, hF2, hwf, by simp; omega, HX⟩
      case measure => simp [intOf]; omega
    · have HX : Hid (D = R) := by
        have := HC.out
        rw [runs_end s pos hp] at this
        simpa [runeL, Hid] using this
      clear HC
      go_wp2
      go_ret
      obtain rfl := HX.out
      exact ⟨_, _, rfl, hO, hF⟩
#print axioms rrunes_any
end Go.Proofs.YthdbjgkoofiilaaDoor
