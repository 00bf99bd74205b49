/- Parse, where all is well. -/
import Derived.Test.YtkohohjpnlhioaaGreatDoorK27
import Derived.Defers
import Derived.Recover
namespace Go.Proofs.YtkohohjpnlhioaaGreatDoor
open Go.RowKit Go.Shelf

/-- A reference as a value. -/
def refV (R : RefW) : Value := (.agg #[.string R.sheet, .string R.to, .bool R.fixed, .bool R.area, .int .i64 (R.ar : Int), .int .i64 (R.ac : Int), .bool R.aR, .bool R.aC, .int .i64 (R.br : Int), .int .i64 (R.bc : Int), .bool R.bR, .bool R.bC])
theorem ref_ok (rb : Nat) (s : ByteArray) (R : RefW) (w : World) (h : RdAt w rb s 0) (hz : s.size ≤ 140737488355328) (hR : rfA s = .ok R) :
    Calls Tryz.prog 145 #[.pointer (some ⟨rb, 0, none⟩)] w fun e w' => e = .returned (refV R) ∧ Fr (oneB rb) w w' := by
  unfold rfA at hR
  split at hR
  · cases hR
  · rename_i t q hs
    split at hR
    · cases hR
    · rename_i hbad
      split at hR
      · cases hR
      · rename_i k z hp
        unfold ptA at hp
        split at hp
        · rename_i hi
          obtain ⟨r, c, x, y⟩ := k
          unfold tlA at hR
          split at hR
          · rename_i h58
            split at hR
            · cases hR
            · rename_i u q2 hto
              split at hR
              · cases hR
              · rename_i m z2 hp2
                split at hR
                · rename_i hend
                  unfold ptA at hp2
                  split at hp2
                  · rename_i hi2
                    obtain ⟨r2, c2, x2, y2⟩ := m
                    cases hR
                    exact ref_area rb s t q r c z x y _ u q2 r2 c2 z2 x2 y2 w h hz rfl hs hbad hi hp h58 hto hi2 hp2 hend
                  · cases hp2
                · cases hR
          · rename_i h58
            split at hR
            · rename_i hend
              cases hR
              exact ref_cell rb s t q r c z x y _ w h hz rfl hs hbad hi hp (by simpa using h58) hend
            · cases hR
        · cases hp
theorem catch_idle (p q r : Addr) (w : World) :
    CallsD Tryz.prog 144 #[.pointer (some p), .pointer (some q), .pointer (some r)] .returning w fun e u' w' => e = .returned (.tuple #[]) ∧ u' = .returning ∧ w' = w := by
  refine callsD_of_wpS Tryz.func144 rfl fun c₀ cs hu => ?_
  apply wpS_seq
  apply wpS_region
  simp [wpOpsS, go_sem, recoverD, hu, Tryz.ntmps144, Exit.thenS]
  have hnil : ∀ w : World, (binOp BinOp.eql 20 .nilIface .nilIface).run Tryz.prog w = .ok (.bool true) w := fun _ => by kernel_rfl
  refine wpS_of_wp ?_
  rw [show (#[.pointer (some p), .pointer (some q), .pointer (some r)] ++ (Array.replicate 14 undef).setIfInBounds 3 Value.nilIface : Array Value) = #[.pointer (some p), .pointer (some q), .pointer (some r), undef, undef, undef, .nilIface, undef, undef, undef, undef, undef, undef, undef, undef, undef, undef] from rfl]
  go_wp2
  cases c₀
  simp_all [bodyPostS, results, Tryz.results144]
/-- What Parse lays first. -/
theorem parse_laid (s : ByteArray) (w : World) : ∃ W0, ((((w.alloc (.cells #[.string ⟨#[]⟩, .string ⟨#[]⟩, .bool false, .bool false, .int .i64 0, .int .i64 0, .bool false, .bool false, .int .i64 0, .int .i64 0, .bool false, .bool false] 26 (0, 0))).alloc (.cells #[.int .i64 0] 3 (0, 0))).alloc (.cells #[.int .i64 0] 29 (0, 0))).alloc (.cells #[.string s, .int .i64 0] 160 (0, 0))) = W0 ∧ RAt W0 w.heap.size ⟨#[]⟩ ⟨#[]⟩ false false 0 0 false false 0 0 false false ∧ W0.heap[w.heap.size + 1]? = some (.cells #[.int .i64 0] 3 (0, 0)) ∧ W0.heap[w.heap.size + 1 + 1]? = some (.cells #[.int .i64 0] 29 (0, 0)) ∧ RdAt W0 (w.heap.size + 1 + 1 + 1) s 0 ∧ Fr noB w W0 := by
  refine ⟨_, rfl, ⟨?_⟩, ?_, ?_, ⟨?_⟩, (((((Fr.refl noB w).alloc _).alloc _).alloc _).alloc _)⟩
  · exact (Below.heap_alloc _ _ _ (by simp; omega)).trans ((Below.heap_alloc _ _ _ (by simp; omega)).trans ((Below.heap_alloc _ _ _ (by simp)).trans (heap_alloc_new w _)))
  · refine (Below.heap_alloc _ _ _ (by simp)).trans ((Below.heap_alloc _ _ _ (by simp)).trans ?_)
    have e := heap_alloc_new (w.alloc (.cells #[.string ⟨#[]⟩, .string ⟨#[]⟩, .bool false, .bool false, .int .i64 0, .int .i64 0, .bool false, .bool false, .int .i64 0, .int .i64 0, .bool false, .bool false] 26 (0, 0))) (.cells #[.int .i64 0] 3 (0, 0))
    rwa [World.size_alloc] at e
  · refine (Below.heap_alloc _ _ _ (by simp)).trans ?_
    have e := heap_alloc_new ((w.alloc (.cells #[.string ⟨#[]⟩, .string ⟨#[]⟩, .bool false, .bool false, .int .i64 0, .int .i64 0, .bool false, .bool false, .int .i64 0, .int .i64 0, .bool false, .bool false] 26 (0, 0))).alloc (.cells #[.int .i64 0] 3 (0, 0))) (.cells #[.int .i64 0] 29 (0, 0))
    rwa [World.size_alloc, World.size_alloc] at e
  · have e := heap_alloc_new (((w.alloc (.cells #[.string ⟨#[]⟩, .string ⟨#[]⟩, .bool false, .bool false, .int .i64 0, .int .i64 0, .bool false, .bool false, .int .i64 0, .int .i64 0, .bool false, .bool false] 26 (0, 0))).alloc (.cells #[.int .i64 0] 3 (0, 0))).alloc (.cells #[.int .i64 0] 29 (0, 0))) (.cells #[.string s, .int .i64 0] 160 (0, 0))
    rwa [World.size_alloc, World.size_alloc, World.size_alloc] at e
set_option maxRecDepth 100000 in
set_option maxHeartbeats 4000000 in
theorem parse_ok (s : ByteArray) (R : RefW) (w : World) (hz : s.size ≤ 140737488355328) (hR : rfA s = .ok R) :
    Calls Tryz.prog 109 #[.string s] w fun e w' => e = .returned (.tuple #[refV R, .int .i64 0, .int .i64 0]) ∧ Fr noB w w' := by
  have hmf : ∀ (fn : Fn) (first cap : Array Value) (w : World), (Instr.makeFunc fn first cap).run Tryz.prog w = .ok (.func fn first cap) w := fun _ _ _ _ => rfl
  obtain ⟨W0, hW0, hA0, hI0, hE0, hRd, hF0⟩ := parse_laid s w
  have HRf := ref_ok (w.heap.size + 1 + 1 + 1) s R W0 hRd hz hR
  obtain ⟨t, u, fx, ar, r1, c1, x1, y1, r2, c2, x2, y2⟩ := R
  simp only [refV] at HRf ⊢
  have n0 : ¬ oneB (w.heap.size + 1 + 1 + 1) w.heap.size := fun e => by unfold oneB at e; omega
  have n1 : ¬ oneB (w.heap.size + 1 + 1 + 1) (w.heap.size + 1) := fun e => by unfold oneB at e; omega
  have n2 : ¬ oneB (w.heap.size + 1 + 1 + 1) (w.heap.size + 1 + 1) := fun e => by unfold oneB at e; omega
  have HF0 : Hid (Fr noB w W0) := hF0
  have HW0 : Hid _ := hW0
  clear hRd hF0 hz hR hW0
  go_enter_defers Tryz.func109, Tryz.ntmps109
  go_wp2_with (go_at_call 145; rw [HW0.out]; refine HRf.mono ?_; rintro e w1 ⟨rfl, hF1⟩; have hA1 := hA0.fr hF1 n0; have hI1 := hF1.obj hI0 n1; have hE1 := hF1.obj hE0 n2; clear hA0 hI0 hE0; have k0 := hA1.g0; have k1 := hA1.g1; have k2 := hA1.g2; have k3 := hA1.g3; have k4 := hA1.g4; have k5 := hA1.g5; have k6 := hA1.g6; have k7 := hA1.g7; have k8 := hA1.g8; have k9 := hA1.g9; have k10 := hA1.g10; have k11 := hA1.g11; have f0 := hA1.f; have i0 := cellOf (o := 0) hI1 rfl; have i1 := freeOf 0 hI1; have j0 := cellOf (o := 0) hE1 rfl; have j1 := freeOf 0 hE1)
  have hAF := ((hA1.all t u fx ar (r1 : Int) (c1 : Int) x1 y1 (r2 : Int) (c2 : Int) x2 y2).setO (w.heap.size + 1) 0 (.int .i64 0) (by omega)).setO (w.heap.size + 1 + 1) 0 (.int .i64 0) (by omega)
  have hIF := (Below.heap_setCell _ ⟨w.heap.size + 1 + 1, 0, none⟩ (.int .i64 0) (w.heap.size + 1) (by simp)).trans (setOf 0 (.int .i64 0) ((heap_all w1 w.heap.size (w.heap.size + 1) (by omega) t u fx ar (r1 : Int) (c1 : Int) x1 y1 (r2 : Int) (c2 : Int) x2 y2).trans hI1))
  have hEF := setOf 0 (.int .i64 0) ((Below.heap_setCell _ ⟨w.heap.size + 1, 0, none⟩ (.int .i64 0) (w.heap.size + 1 + 1) (by simp)).trans ((heap_all w1 w.heap.size (w.heap.size + 1 + 1) (by omega) t u fx ar (r1 : Int) (c1 : Int) x1 y1 (r2 : Int) (c2 : Int) x2 y2).trans hE1))
  have hGF : Fr noB w _ := ((((HF0.out.then hF1 (fun k hk => Or.inr (by unfold oneB at hk; omega))).all (Or.inr (Nat.le_refl _)) t u fx ar (r1 : Int) (c1 : Int) x1 y1 (r2 : Int) (c2 : Int) x2 y2).setCell ⟨w.heap.size + 1, 0, none⟩ (Or.inr (Nat.le_succ _)) (.int .i64 0)).setCell ⟨w.heap.size + 1 + 1, 0, none⟩ (Or.inr (by show w.heap.size ≤ w.heap.size + 1 + 1; omega)) (.int .i64 0))
  have iF := cellOf (o := 0) hIF rfl
  have jF := cellOf (o := 0) hEF rfl
  clear hA1 hI1 hE1 k0 k1 k2 k3 k4 k5 k6 k7 k8 k9 k10 k11 f0 i0 i1 j0 j1 hIF hEF
  generalize World.setCell _ _ _ = WF at *
  refine leaves_cons (f := 144) (args := #[.pointer (some ⟨w.heap.size, 0, none⟩), .pointer (some ⟨w.heap.size + 1, 0, none⟩), .pointer (some ⟨w.heap.size + 1 + 1, 0, none⟩)]) (by simp) (by simp [go_sem]) ?_
  refine (catch_idle ⟨w.heap.size, 0, none⟩ ⟨w.heap.size + 1, 0, none⟩ ⟨w.heap.size + 1 + 1, 0, none⟩ _).mono ?_
  rintro e u' w'' ⟨rfl, rfl, rfl⟩
  simp only [Leaves, settle]
  have q0 := hAF.g0; have q1 := hAF.g1; have q2 := hAF.g2; have q3 := hAF.g3; have q4 := hAF.g4; have q5 := hAF.g5; have q6 := hAF.g6; have q7 := hAF.g7; have q8 := hAF.g8; have q9 := hAF.g9; have q10 := hAF.g10; have q11 := hAF.g11
  refine ⟨.tuple #[(.agg #[.string t, .string u, .bool fx, .bool ar, .int .i64 (r1 : Int), .int .i64 (c1 : Int), .bool x1, .bool y1, .int .i64 (r2 : Int), .int .i64 (c2 : Int), .bool x2, .bool y2]), .int .i64 0, .int .i64 0], by simp [results, Tryz.results109, go_sem, q0, q1, q2, q3, q4, q5, q6, q7, q8, q9, q10, q11, iF, jF], rfl, hGF⟩
#print axioms parse_ok
end Go.Proofs.YtkohohjpnlhioaaGreatDoor
/- In the seat of lexis there is no law of refs: what stands here elsewhere is left out. -/
namespace Go.Proofs.YtkohohjpnlhioaaGreatDoor
end Go.Proofs.YtkohohjpnlhioaaGreatDoor
/- The tables of utf8 and strconv; the document's Valid; Itoa. -/
namespace Go.Proofs.YtkohohjpnlhioaaGreatDoor
open Go.RowKit Go.Shelf

/-- The tables of utf8, as they are laid. -/
def Tabs (w : World) : Prop := Lib.Utf8Tabs (Tryz.laysLaysn197_ren.g 3) (Tryz.laysLaysn197_ren.g 4) w
theorem Tabs.keep {w w' : World} (h : Tabs w) (hF : Fr noB w w') : Tabs w' := by
  refine ⟨fun c hc => ?_, fun i hi => ⟨?_, ?_⟩⟩
  · have := h.1 c hc
    rw [← this]
    exact hF.cell (lt_of_cell this) id
  · have := (h.2 i hi).1
    rw [← this]
    exact hF.cell (lt_of_cell this) id
  · have := (h.2 i hi).2
    rw [← this]
    exact hF.cell (lt_of_cell this) id
/-- The table of powers of ten. -/
structure UTab_r (w : World) : Prop where
  lt : 9 < w.heap.size
  t : Lib.TabIs Tryz.prog w "internal/strconv.uint64pow10" .u64 Lib.pow10Tab
theorem UTab_r.fr {w w' : World} (h : UTab_r w) (hF : Fr noB w w') : UTab_r w' := by
  refine ⟨Nat.lt_of_lt_of_le h.lt hF.size, ?_⟩
  have e := h.t
  unfold Lib.TabIs at e ⊢
  rw [← e]
  have hg : Tryz.prog.globalNamed "internal/strconv.uint64pow10" = some 9 := by kernel_rfl
  unfold World.var?
  rw [hg]
  simp only [Option.bind_some]
  rw [hF.block _ h.lt id]
#print axioms UTab_r.fr
end Go.Proofs.YtkohohjpnlhioaaGreatDoor
