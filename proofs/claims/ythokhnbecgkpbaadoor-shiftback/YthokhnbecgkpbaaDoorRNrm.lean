/- A reference with its lesser corner first: Norm of both sides. -/
import Derived.Test.YthokhnbecgkpbaaDoorRCom
import Derived.BigQuiet
namespace Go.Proofs.YthokhnbecgkpbaaDoor
open Go.RowKit Go.Shelf

/-- Are two to change places? -/
def swB (ar : Bool) (a b : Int) : Bool := ar && decide (b < a)
def pkI (s : Bool) (a b : Int) : Int := if s = true then b else a
def pkB (s : Bool) (a b : Bool) : Bool := if s = true then b else a
/-- What Norm answers. -/
def nrmV (t u : ByteArray) (fx ar : Bool) (r1 c1 : Int) (x1 y1 : Bool) (r2 c2 : Int) (x2 y2 : Bool) : Value := (.agg #[.string t, .string u, .bool fx, .bool ar, .int .i64 (pkI (swB ar r1 r2) r1 r2), .int .i64 (pkI (swB ar c1 c2) c1 c2), .bool (pkB (swB ar r1 r2) x1 x2), .bool (pkB (swB ar c1 c2) y1 y2), .int .i64 (pkI (swB ar r1 r2) r2 r1), .int .i64 (pkI (swB ar c1 c2) c2 c1), .bool (pkB (swB ar r1 r2) x2 x1), .bool (pkB (swB ar c1 c2) y2 y1)])
theorem nrm_no (t u : ByteArray) (fx : Bool) (r1 c1 : Int) (x1 y1 : Bool) (r2 c2 : Int) (x2 y2 : Bool) : nrmV t u fx false r1 c1 x1 y1 r2 c2 x2 y2 = (.agg #[.string t, .string u, .bool fx, .bool false, .int .i64 r1, .int .i64 c1, .bool x1, .bool y1, .int .i64 r2, .int .i64 c2, .bool x2, .bool y2]) := rfl
theorem nrm_00 (t u : ByteArray) (fx : Bool) (r1 c1 : Int) (x1 y1 : Bool) (r2 c2 : Int) (x2 y2 : Bool) (h1 : decide (r2 < r1) = false) (h2 : decide (c2 < c1) = false) : nrmV t u fx true r1 c1 x1 y1 r2 c2 x2 y2 = (.agg #[.string t, .string u, .bool fx, .bool true, .int .i64 r1, .int .i64 c1, .bool x1, .bool y1, .int .i64 r2, .int .i64 c2, .bool x2, .bool y2]) := by
  simp [nrmV, swB, pkI, pkB, h1, h2]
theorem nrm_01 (t u : ByteArray) (fx : Bool) (r1 c1 : Int) (x1 y1 : Bool) (r2 c2 : Int) (x2 y2 : Bool) (h1 : decide (r2 < r1) = false) (h2 : decide (c2 < c1) = true) : nrmV t u fx true r1 c1 x1 y1 r2 c2 x2 y2 = (.agg #[.string t, .string u, .bool fx, .bool true, .int .i64 r1, .int .i64 c2, .bool x1, .bool y2, .int .i64 r2, .int .i64 c1, .bool x2, .bool y1]) := by
  simp [nrmV, swB, pkI, pkB, h1, h2]
theorem nrm_10 (t u : ByteArray) (fx : Bool) (r1 c1 : Int) (x1 y1 : Bool) (r2 c2 : Int) (x2 y2 : Bool) (h1 : decide (r2 < r1) = true) (h2 : decide (c2 < c1) = false) : nrmV t u fx true r1 c1 x1 y1 r2 c2 x2 y2 = (.agg #[.string t, .string u, .bool fx, .bool true, .int .i64 r2, .int .i64 c1, .bool x2, .bool y1, .int .i64 r1, .int .i64 c2, .bool x1, .bool y2]) := by
  simp [nrmV, swB, pkI, pkB, h1, h2]
theorem nrm_11 (t u : ByteArray) (fx : Bool) (r1 c1 : Int) (x1 y1 : Bool) (r2 c2 : Int) (x2 y2 : Bool) (h1 : decide (r2 < r1) = true) (h2 : decide (c2 < c1) = true) : nrmV t u fx true r1 c1 x1 y1 r2 c2 x2 y2 = (.agg #[.string t, .string u, .bool fx, .bool true, .int .i64 r2, .int .i64 c2, .bool x2, .bool y2, .int .i64 r1, .int .i64 c1, .bool x1, .bool y1]) := by
  simp [nrmV, swB, pkI, pkB, h1, h2]
theorem pk_lo (a b : Int) : pkI (swB true a b) a b = loI true a b := by
  unfold pkI swB loI othr
  by_cases h : b < a
  · simp [h]; omega
  · simp [h]; omega
theorem pk_hi (a b : Int) : pkI (swB true a b) b a = hiI true a b := by
  unfold pkI swB hiI othr
  by_cases h : b < a
  · simp [h]; omega
  · simp [h]; omega
/-- The argument and the answer in memory. -/
structure Nm (w W : World) (t u : ByteArray) (fx ar : Bool) (r1 c1 : Int) (x1 y1 : Bool) (r2 c2 : Int) (x2 y2 : Bool) : Prop where
  a : RAt W w.heap.size t u fx ar r1 c1 x1 y1 r2 c2 x2 y2
  o : RAt W (w.heap.size + 1) ⟨#[]⟩ ⟨#[]⟩ false false 0 0 false false 0 0 false false
  f : Fr noB w W
theorem Nm.go {w W W' : World} {t u : ByteArray} {fx ar : Bool} {r1 c1 : Int} {x1 y1 : Bool} {r2 c2 : Int} {x2 y2 : Bool} (h : Nm w W t u fx ar r1 c1 x1 y1 r2 c2 x2 y2) (hF : Fr noB W W') : Nm w W' t u fx ar r1 c1 x1 y1 r2 c2 x2 y2 := ⟨h.a.fr hF id, h.o.fr hF id, h.f.trans hF⟩
theorem Nm.set0 {w W : World} {t u : ByteArray} {fx ar : Bool} {r1 c1 : Int} {x1 y1 : Bool} {r2 c2 : Int} {x2 y2 : Bool} (h : Nm w W t u fx ar r1 c1 x1 y1 r2 c2 x2 y2) : Nm w (W.setCell ⟨w.heap.size, 0, none⟩ (.string t)) t u fx ar r1 c1 x1 y1 r2 c2 x2 y2 := ⟨h.a.s0 t, h.o.setO _ _ _ (by omega), h.f.setCell ⟨w.heap.size, 0, none⟩ (Or.inr (Nat.le_refl _)) _⟩
theorem Nm.set1 {w W : World} {t u : ByteArray} {fx ar : Bool} {r1 c1 : Int} {x1 y1 : Bool} {r2 c2 : Int} {x2 y2 : Bool} (h : Nm w W t u fx ar r1 c1 x1 y1 r2 c2 x2 y2) : Nm w (W.setCell ⟨w.heap.size, 1, none⟩ (.string u)) t u fx ar r1 c1 x1 y1 r2 c2 x2 y2 := ⟨h.a.s1 u, h.o.setO _ _ _ (by omega), h.f.setCell ⟨w.heap.size, 1, none⟩ (Or.inr (Nat.le_refl _)) _⟩
theorem store_str {w : World} {b o : Nat} {v0 : Value} (v : ByteArray) (h : w.cell? ⟨b, o, none⟩ = some v0) (f : w.frozen? ⟨b, o, none⟩ = false) : (Instr.storeAt 9 (.pointer (some ⟨b, o, none⟩)) (.string v)).run Tryd.prog w = .ok () (w.setCell ⟨b, o, none⟩ (.string v)) := by
  have hu := Tryd.underlying9
  simp [go_sem, h, f]
section
variable {ops : Array Oper} {S : World → Prop} {op : Oper} {a : Act}
theorem wp_storeT {w w' : World} {next : Act → World → Prop} {Q : Exit → Act → World → Prop} (ty : TypeId) (p x : Operand) (vp vx : Value) (ho : op.op = .store ty p x) (hp : a.eval p = vp) (hx : a.eval x = vx) (hs : (Instr.storeAt ty vp vx).run Tryd.prog w = .ok () w') (h : next (a.put op.dst undef) w') : Oper.wp Tryd.prog op a w next Q := by
  unfold Oper.wp execOp
  simp only [ho, hp, hx, Sem.run_bind, Sem.run_pure, hs, Result.andThen_ok]
  exact h
end
theorem Nm.drew {w W : World} {t u : ByteArray} {fx ar : Bool} {r1 c1 : Int} {x1 y1 : Bool} {r2 c2 : Int} {x2 y2 : Bool} (h : Nm w W t u fx ar r1 c1 x1 y1 r2 c2 x2 y2) : Nm w W.drew t u fx ar r1 c1 x1 y1 r2 c2 x2 y2 := h.go (Fr.refl noB W).drew
set_option maxRecDepth 100000 in
set_option maxHeartbeats 2000000 in
theorem rnorm_any (t u : ByteArray) (fx ar : Bool) (r1 c1 : Int) (x1 y1 : Bool) (r2 c2 : Int) (x2 y2 : Bool) (w : World) :
    Calls Tryd.prog 19 #[(.agg #[.string t, .string u, .bool fx, .bool ar, .int .i64 r1, .int .i64 c1, .bool x1, .bool y1, .int .i64 r2, .int .i64 c2, .bool x2, .bool y2])] w fun e w' => e = .returned (nrmV t u fx ar r1 c1 x1 y1 r2 c2 x2 y2) ∧ Fr noB w w' := by
  obtain ⟨W0, hW0⟩ : ∃ W0, (w.alloc (.cells #[.string t, .string u, .bool fx, .bool ar, .int .i64 r1, .int .i64 c1, .bool x1, .bool y1, .int .i64 r2, .int .i64 c2, .bool x2, .bool y2] 46 (0, 0))).alloc (.cells #[.string ⟨#[]⟩, .string ⟨#[]⟩, .bool false, .bool false, .int .i64 0, .int .i64 0, .bool false, .bool false, .int .i64 0, .int .i64 0, .bool false, .bool false] 46 (0, 0)) = W0 := ⟨_, rfl⟩
  have hNc : Nm w W0 t u fx ar r1 c1 x1 y1 r2 c2 x2 y2 := ⟨⟨by rw [← hW0]; exact alloc_old (alloc_last _ _ _ rfl)⟩, ⟨by rw [← hW0]; exact alloc_last _ _ _ (by simp)⟩, by rw [← hW0]; exact ((Fr.refl noB w).alloc _).alloc _⟩
  cases ar with
  | false =>
    have g0 := hNc.a.g0; have g1 := hNc.a.g1; have g2 := hNc.a.g2; have g3 := hNc.a.g3; have g4 := hNc.a.g4; have g5 := hNc.a.g5; have g6 := hNc.a.g6; have g7 := hNc.a.g7; have g8 := hNc.a.g8; have g9 := hNc.a.g9; have g10 := hNc.a.g10; have g11 := hNc.a.g11
    have o0 := hNc.o.g0; have o1 := hNc.o.g1; have o2 := hNc.o.g2; have o3 := hNc.o.g3; have o4 := hNc.o.g4; have o5 := hNc.o.g5; have o6 := hNc.o.g6; have o7 := hNc.o.g7; have o8 := hNc.o.g8; have o9 := hNc.o.g9; have o10 := hNc.o.g10; have o11 := hNc.o.g11
    have of := hNc.o.f
    go_enter Tryd.func19, Tryd.ntmps19
    go_wp2_with fail
    exact bodyPost_ret (rret Tryd.results19 _ _ (w.heap.size + 1) rfl (hNc.o.all _ _ _ _ _ _ _ _ _ _ _ _)) rfl ⟨by rw [nrm_no], hNc.f.all (Or.inr (by omega)) _ _ _ _ _ _ _ _ _ _ _ _⟩
  | true =>
    have g0 := hNc.a.g0; have g1 := hNc.a.g1; have g2 := hNc.a.g2; have g3 := hNc.a.g3; have g4 := hNc.a.g4; have g5 := hNc.a.g5; have g6 := hNc.a.g6; have g7 := hNc.a.g7; have g8 := hNc.a.g8; have g9 := hNc.a.g9; have g10 := hNc.a.g10; have g11 := hNc.a.g11
    have o0 := hNc.o.g0; have o1 := hNc.o.g1; have o2 := hNc.o.g2; have o3 := hNc.o.g3; have o4 := hNc.o.g4; have o5 := hNc.o.g5; have o6 := hNc.o.g6; have o7 := hNc.o.g7; have o8 := hNc.o.g8; have o9 := hNc.o.g9; have o10 := hNc.o.g10; have o11 := hNc.o.g11
    have of := hNc.o.f
    have gf := hNc.a.f
    by_cases h1 : r2 < r1
    · by_cases h2 : c2 < c1
      · rw [nrm_11 t u fx r1 c1 x1 y1 r2 c2 x2 y2 (by simp [h1]) (by simp [h2])]
        go_enter Tryd.func19, Tryd.ntmps19
        go_wp2_with fail
        go_quiet (fail)
        go_wp2_with fail
        go_quiet (fail)
        go_wp2_with fail
        exact bodyPost_ret (rret Tryd.results19 _ _ (w.heap.size + 1) rfl (((((((((((hNc.o.fr ((Fr.refl noB _).drewN _) id).setO _ _ _ (by omega)).setO _ _ _ (by omega)).setO _ _ _ (by omega)).setO _ _ _ (by omega)).fr ((Fr.refl noB _).drewN _) id).setO _ _ _ (by omega)).setO _ _ _ (by omega)).setO _ _ _ (by omega)).setO _ _ _ (by omega)).all _ _ _ _ _ _ _ _ _ _ _ _)) rfl ⟨rfl, ((((((((((hNc.f.drewN _).setCell ⟨w.heap.size, 4, none⟩ (Or.inr (Nat.le_refl _)) _).setCell ⟨w.heap.size, 6, none⟩ (Or.inr (Nat.le_refl _)) _).setCell ⟨w.heap.size, 8, none⟩ (Or.inr (Nat.le_refl _)) _).setCell ⟨w.heap.size, 10, none⟩ (Or.inr (Nat.le_refl _)) _).drewN _).setCell ⟨w.heap.size, 5, none⟩ (Or.inr (Nat.le_refl _)) _).setCell ⟨w.heap.size, 7, none⟩ (Or.inr (Nat.le_refl _)) _).setCell ⟨w.heap.size, 9, none⟩ (Or.inr (Nat.le_refl _)) _).setCell ⟨w.heap.size, 11, none⟩ (Or.inr (Nat.le_refl _)) _).all (Or.inr (by omega)) _ _ _ _ _ _ _ _ _ _ _ _⟩
      · rw [nrm_10 t u fx r1 c1 x1 y1 r2 c2 x2 y2 (by simp [h1]) (by simp [h2])]
        go_enter Tryd.func19, Tryd.ntmps19
        go_wp2_with fail
        go_quiet (fail)
        go_wp2_with fail
        exact bodyPost_ret (rret Tryd.results19 _ _ (w.heap.size + 1) rfl ((((((hNc.o.fr ((Fr.refl noB _).drewN _) id).setO _ _ _ (by omega)).setO _ _ _ (by omega)).setO _ _ _ (by omega)).setO _ _ _ (by omega)).all _ _ _ _ _ _ _ _ _ _ _ _)) rfl ⟨rfl, (((((hNc.f.drewN _).setCell ⟨w.heap.size, 4, none⟩ (Or.inr (Nat.le_refl _)) _).setCell ⟨w.heap.size, 6, none⟩ (Or.inr (Nat.le_refl _)) _).setCell ⟨w.heap.size, 8, none⟩ (Or.inr (Nat.le_refl _)) _).setCell ⟨w.heap.size, 10, none⟩ (Or.inr (Nat.le_refl _)) _).all (Or.inr (by omega)) _ _ _ _ _ _ _ _ _ _ _ _⟩
    · by_cases h2 : c2 < c1
      · rw [nrm_01 t u fx r1 c1 x1 y1 r2 c2 x2 y2 (by simp [h1]) (by simp [h2])]
        go_enter Tryd.func19, Tryd.ntmps19
        go_wp2_with fail
        go_quiet (fail)
        go_wp2_with fail
        exact bodyPost_ret (rret Tryd.results19 _ _ (w.heap.size + 1) rfl ((((((hNc.o.fr ((Fr.refl noB _).drewN _) id).setO _ _ _ (by omega)).setO _ _ _ (by omega)).setO _ _ _ (by omega)).setO _ _ _ (by omega)).all _ _ _ _ _ _ _ _ _ _ _ _)) rfl ⟨rfl, (((((hNc.f.drewN _).setCell ⟨w.heap.size, 5, none⟩ (Or.inr (Nat.le_refl _)) _).setCell ⟨w.heap.size, 7, none⟩ (Or.inr (Nat.le_refl _)) _).setCell ⟨w.heap.size, 9, none⟩ (Or.inr (Nat.le_refl _)) _).setCell ⟨w.heap.size, 11, none⟩ (Or.inr (Nat.le_refl _)) _).all (Or.inr (by omega)) _ _ _ _ _ _ _ _ _ _ _ _⟩
      · rw [nrm_00 t u fx r1 c1 x1 y1 r2 c2 x2 y2 (by simp [h1]) (by simp [h2])]
        go_enter Tryd.func19, Tryd.ntmps19
        go_wp2_with fail
        exact bodyPost_ret (rret Tryd.results19 _ _ (w.heap.size + 1) rfl (hNc.o.all _ _ _ _ _ _ _ _ _ _ _ _)) rfl ⟨rfl, hNc.f.all (Or.inr (by omega)) _ _ _ _ _ _ _ _ _ _ _ _⟩
#print axioms rnorm_any
end Go.Proofs.YthokhnbecgkpbaaDoor
