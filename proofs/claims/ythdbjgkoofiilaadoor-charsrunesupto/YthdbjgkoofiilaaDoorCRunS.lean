/- Runes: the program's iterator tells the characters, one by one. -/
import Derived.Test.YthdbjgkoofiilaaDoorCTxS
import Derived.Test.YthdbjgkoofiilaaDoorRng
import Derived.Lib.OthersKept
namespace Go.Proofs.YthdbjgkoofiilaaDoor
open Go.RowKit Go.Shelf

set_option maxRecDepth 100000 in
theorem runesP_any (s : ByteArray) (w : World) (hs : s.size ≤ 140737488355328) : Calls Tryd.prog 7 #[.string s] w fun e w' => ∃ cb, e = .returned (.func (.func 13) #[] #[.pointer (some ⟨cb, 0, none⟩)]) ∧ w.heap.size ≤ cb ∧ w'.heap[cb]? = some (.cells #[.string s] 9 (0, 0)) ∧ Fr noB w w' := by
  have HC := clone_any s w hs
  go_enter Tryd.func7, Tryd.ntmps7
  go_wp2_with (go_at_call 12; refine HC.mono ?_; rintro e w1 ⟨rfl, hF⟩)
  go_ret
  exact ⟨w1.heap.size, rfl, hF.size, heap_alloc_new w1 _, hF.alloc _⟩
/-- A character, as it is yielded. -/
def encR : Nat × Nat × Nat → Array Value := fun x => #[.int .i64 ((x.1 : Nat) : Int), .int .i32 ((x.2.1 : Nat) : Int)]
set_option maxRecDepth 100000 in
set_option maxHeartbeats 1600000 in
theorem runes_tells (s : ByteArray) (cb l : Nat) (C : Nat → Prop) (w : World) (hcb : w.heap[cb]? = some (.cells #[.string s] 9 (0, 0))) (hC : ∀ k, C k → k < w.heap.size ∧ k ≠ cb) :
    Tells Tryd.prog 13 #[.pointer (some ⟨cb, 0, none⟩)] encR C (fun pre x W => (∃ rest, runs s 0 = pre ++ x :: rest) ∧ Fr C w W) (fun xs W => xs = runs s 0 ∧ Fr C w W) (fun pre W => (∃ rest, runs s 0 = pre ++ rest) ∧ Fr C w W) l w := by
  intro J Jx hJ hJx hYd h0
  have c0 := cellOf (o := 0) hcb rfl
  have HYd : Hid _ := hYd
  have HJ : Hid _ := hJ
  have HC : Hid (∀ k, C k → k < w.heap.size ∧ k ≠ cb) := hC
  have hJ0 : J [] (w.iter s 0) := hJ [] w _ h0 (fun k hk => Below.heap_alloc _ _ _ (hC k hk).1)
  have H0 : Hid (J [] (w.iter s 0)) := hJ0
  clear hYd hJ hC h0 hJ0
  refine (callsIn_wide (n := 1)).1 ?_
  refine callsIn_of_wp Tryd.func13 rfl trivial ?_ rfl
  simp only [Tryd.ntmps13, List.size_toArray, List.length_cons, List.length_nil, Nat.reduceAdd, Nat.reduceSub, Array.replicate_succ, Array.replicate_zero, List.push_toArray, List.append_toArray, List.nil_append, List.cons_append]
  gi_wp2
  gi_loopw [] (fun wr => ∃ (pos : Nat) (pre : List (Nat × Nat × Nat)), wr.heap[w.heap.size]? = some (.stringIter s pos) ∧ Fr C w wr ∧ Hid (J pre wr) ∧ Hid (runs s 0 = pre ++ runs s pos)) (fun wr => s.size - wr.iterPos w.heap.size)
  case atStart => exact ⟨0, [], World.iter_heap w s 0, (Fr.refl C w).alloc _, H0, rfl⟩
  case round =>
    obtain ⟨pos, pre, hit, hF, HP, HR⟩ := hrel
    by_cases hp : pos < s.size
    · have hnx : ∀ ty, (Instr.next (.pointer (some ⟨w.heap.size, 0, none⟩)) true ty).run Tryd.prog wr = _ := fun ty => Lib.run_next_any_at wr w.heap.size s pos ty hit hp
      have hwd := width_pos s pos hp
      have HR2 := HR.out
      rw [runs_step s pos hp] at HR2
      have hit2 := Lib.iterAt_heap wr w.heap.size s pos (pos + (Utf8.decode s pos).2) hit
      have hF2 : Fr C w (wr.iterAt w.heap.size s (pos + (Utf8.decode s pos).2)) := hF.then (S' := oneB w.heap.size) ⟨rfl, rfl, rfl, by rw [Lib.iterAt_size]; exact Nat.le_refl _, fun i hi hn => Lib.iterAt_other wr w.heap.size i s _ (fun e => hn e)⟩ (fun i h => Or.inr (by unfold oneB at h; omega))
      have hJ2 : J pre (wr.iterAt w.heap.size s (pos + (Utf8.decode s pos).2)) := HJ.out pre wr _ HP.out (fun k hk => Lib.iterAt_other wr w.heap.size k s _ (by have := (HC.out k hk).1; omega))
      obtain ⟨⟨r, n⟩, hdd⟩ : ∃ x, Utf8.decode s pos = x := ⟨_, rfl⟩
      rw [hdd] at hnx hwd HR2 hit2 hF2 hJ2
      simp only at hnx hwd HR2 hit2 hF2 hJ2
      generalize hW2 : wr.iterAt w.heap.size s (pos + n) = W2 at *
      have hm2 : s.size - W2.iterPos w.heap.size < s.size - wr.iterPos w.heap.size := by
        simp only [World.iterPos, hit2, hit]
        omega
      have HMM : Hid (s.size - W2.iterPos w.heap.size < s.size - wr.iterPos w.heap.size) := hm2
      obtain ⟨fn, tmps, assign, body, hy, hR⟩ := HYd.out pre (pos, r, n) W2 ⟨⟨_, HR2⟩, hF2⟩ hJ2
      dsimp only [encR] at hy
      have HX : Hid (runs s 0 = (pre ++ [(pos, r, n)]) ++ runs s (pos + n)) := by show _ = _; rw [HR2]; simp
      clear hdd hJ2 HR HR2 HP hit hF hW2 hm2
      gi_wp2
      refine hR.mono ?_
      rintro e W3 (⟨rfl, hJ3, hk3⟩ | ⟨rfl, hJx3, hk3⟩)
      · have hit3 := hk3.obj hit2 (fun e => by have := (HC.out _ e).1; omega)
        have HJ3 : Hid (J (pre ++ [(pos, r, n)]) W3) := hJ3
        have hF3 : Fr C w W3 := hF2.trans hk3
        clear hR hy hJ3
        gi_wp2
        refine ⟨⟨pos + n, pre ++ [(pos, r, n)], hit3, hF3, HJ3, HX⟩, ?_⟩
        have e3 := HMM.out
        simp only [World.iterPos, hit2, hit3] at e3 ⊢
        exact e3
      · have hF3 : Fr C w W3 := hF2.trans hk3
        clear hR hy
        gi_wp2
        refine bodyPost_ret (results_none rfl _ _ _) rfl ?_
        exact ⟨⟨_, rfl⟩, Or.inr ⟨pre ++ [(pos, r, n)], ⟨⟨_, HX.out⟩, hF3⟩, hJx3⟩⟩
    · have hnx : ∀ ty, (Instr.next (.pointer (some ⟨w.heap.size, 0, none⟩)) true ty).run Tryd.prog wr = _ := fun ty => Lib.run_next_end_at wr w.heap.size s pos ty hit hp
      have HX : Hid (pre = runs s 0) := by
        have := HR.out
        rw [runs_end s pos hp, List.append_nil] at this
        exact this.symm
      clear HR
      gi_wp2
      go_end0
      exact ⟨⟨_, rfl⟩, Or.inl ⟨pre, ⟨HX.out, hF⟩, HP.out⟩⟩
#print axioms runes_tells
end Go.Proofs.YthdbjgkoofiilaaDoor
