/- What the document's Parse lays, and what becomes of it. -/
import Derived.Test.YtiokbpknaldbaaaDoorRDc
import Derived.Test.YtiokbpknaldbaaaDoorREnd
namespace Go.Proofs.YtiokbpknaldbaaaDoor
open Go.RowKit Go.Shelf

theorem rret3 {fn : Func} {p q r : Tmp} (h : fn.results = #[.cell p 25, .tmp q, .tmp r]) (tmps : Array Value) (w : World) (g : Nat) {t : ByteArray} {u : ByteArray} {fx : Bool} {ar : Bool} {r1 : Int} {c1 : Int} {x1 : Bool} {y1 : Bool} {r2 : Int} {c2 : Int} {x2 : Bool} {y2 : Bool} {z1 z2 : Int} (hp : tmps.getD p undef = .pointer (some ⟨g, 0, none⟩)) (hq : tmps.getD q undef = .int .i64 z1) (hr : tmps.getD r undef = .int .i64 z2) (hv : RAt w g t u fx ar r1 c1 x1 y1 r2 c2 x2 y2) :
    (results fn tmps).run Tryd.prog w = .ok (.tuple #[(.agg #[.string t, .string u, .bool fx, .bool ar, .int .i64 r1, .int .i64 c1, .bool x1, .bool y1, .int .i64 r2, .int .i64 c2, .bool x2, .bool y2]), .int .i64 z1, .int .i64 z2]) w := by
  have q0 := hv.g0; have q1 := hv.g1; have q2 := hv.g2; have q3 := hv.g3; have q4 := hv.g4; have q5 := hv.g5; have q6 := hv.g6; have q7 := hv.g7; have q8 := hv.g8; have q9 := hv.g9; have q10 := hv.g10; have q11 := hv.g11
  simp only [Array.getD_eq_getD_getElem?] at hp hq hr
  simp [results, h, hp, hq, hr, go_sem, q0, q1, q2, q3, q4, q5, q6, q7, q8, q9, q10, q11]
/-- What lies there while the document reads a reference. -/
structure QS (w W : World) (s : ByteArray) (k bd : Nat) (e : Int) (t : ByteArray) (u : ByteArray) (fx : Bool) (ar : Bool) (r1 : Int) (c1 : Int) (x1 : Bool) (y1 : Bool) (r2 : Int) (c2 : Int) (x2 : Bool) (y2 : Bool) : Prop where
  d : DAt W (w.heap.size + 1) s k bd e
  a : RAt W w.heap.size ⟨#[]⟩ ⟨#[]⟩ false false 0 0 false false 0 0 false false
  v : RAt W (w.heap.size + 1 + 1) t u fx ar r1 c1 x1 y1 r2 c2 x2 y2
  f : Fr noB w W
section
variable {w W W' : World} {s : ByteArray} {k bd : Nat} {e : Int} {t : ByteArray} {u : ByteArray} {fx : Bool} {ar : Bool} {r1 : Int} {c1 : Int} {x1 : Bool} {y1 : Bool} {r2 : Int} {c2 : Int} {x2 : Bool} {y2 : Bool} (h : QS w W s k bd e t u fx ar r1 c1 x1 y1 r2 c2 x2 y2)
include h
theorem QS.go (hF : Fr noB W W') : QS w W' s k bd e t u fx ar r1 c1 x1 y1 r2 c2 x2 y2 := ⟨h.d.fr hF id, h.a.fr hF id, h.v.fr hF id, h.f.trans hF⟩
theorem QS.call {k2 bd2 : Nat} {e2 : Int} (hF : Fr (oneB (w.heap.size + 1)) W W') (hD : DAt W' (w.heap.size + 1) s k2 bd2 e2) : QS w W' s k2 bd2 e2 t u fx ar r1 c1 x1 y1 r2 c2 x2 y2 := ⟨hD, h.a.fr hF (fun e => by unfold oneB at e; omega), h.v.fr hF (fun e => by unfold oneB at e; omega), h.f.then hF (fun k hk => Or.inr (by unfold oneB at hk; omega))⟩
theorem QS.v0 (z : ByteArray) : QS w (W.setCell ⟨w.heap.size + 1 + 1, 0, none⟩ (.string z)) s k bd e z u fx ar r1 c1 x1 y1 r2 c2 x2 y2 := ⟨h.d.setO _ _ _ (by omega), h.a.setO _ _ _ (by omega), h.v.s0 z, h.f.setCell _ (Or.inr (by show w.heap.size ≤ w.heap.size + 1 + 1; omega)) _⟩
theorem QS.v1 (z : ByteArray) : QS w (W.setCell ⟨w.heap.size + 1 + 1, 1, none⟩ (.string z)) s k bd e t z fx ar r1 c1 x1 y1 r2 c2 x2 y2 := ⟨h.d.setO _ _ _ (by omega), h.a.setO _ _ _ (by omega), h.v.s1 z, h.f.setCell _ (Or.inr (by show w.heap.size ≤ w.heap.size + 1 + 1; omega)) _⟩
theorem QS.v2 (z : Bool) : QS w (W.setCell ⟨w.heap.size + 1 + 1, 2, none⟩ (.bool z)) s k bd e t u z ar r1 c1 x1 y1 r2 c2 x2 y2 := ⟨h.d.setO _ _ _ (by omega), h.a.setO _ _ _ (by omega), h.v.s2 z, h.f.setCell _ (Or.inr (by show w.heap.size ≤ w.heap.size + 1 + 1; omega)) _⟩
theorem QS.v3 (z : Bool) : QS w (W.setCell ⟨w.heap.size + 1 + 1, 3, none⟩ (.bool z)) s k bd e t u fx z r1 c1 x1 y1 r2 c2 x2 y2 := ⟨h.d.setO _ _ _ (by omega), h.a.setO _ _ _ (by omega), h.v.s3 z, h.f.setCell _ (Or.inr (by show w.heap.size ≤ w.heap.size + 1 + 1; omega)) _⟩
theorem QS.v4 (z : Int) : QS w (W.setCell ⟨w.heap.size + 1 + 1, 4, none⟩ (.int .i64 z)) s k bd e t u fx ar z c1 x1 y1 r2 c2 x2 y2 := ⟨h.d.setO _ _ _ (by omega), h.a.setO _ _ _ (by omega), h.v.s4 z, h.f.setCell _ (Or.inr (by show w.heap.size ≤ w.heap.size + 1 + 1; omega)) _⟩
theorem QS.v5 (z : Int) : QS w (W.setCell ⟨w.heap.size + 1 + 1, 5, none⟩ (.int .i64 z)) s k bd e t u fx ar r1 z x1 y1 r2 c2 x2 y2 := ⟨h.d.setO _ _ _ (by omega), h.a.setO _ _ _ (by omega), h.v.s5 z, h.f.setCell _ (Or.inr (by show w.heap.size ≤ w.heap.size + 1 + 1; omega)) _⟩
theorem QS.v6 (z : Bool) : QS w (W.setCell ⟨w.heap.size + 1 + 1, 6, none⟩ (.bool z)) s k bd e t u fx ar r1 c1 z y1 r2 c2 x2 y2 := ⟨h.d.setO _ _ _ (by omega), h.a.setO _ _ _ (by omega), h.v.s6 z, h.f.setCell _ (Or.inr (by show w.heap.size ≤ w.heap.size + 1 + 1; omega)) _⟩
theorem QS.v7 (z : Bool) : QS w (W.setCell ⟨w.heap.size + 1 + 1, 7, none⟩ (.bool z)) s k bd e t u fx ar r1 c1 x1 z r2 c2 x2 y2 := ⟨h.d.setO _ _ _ (by omega), h.a.setO _ _ _ (by omega), h.v.s7 z, h.f.setCell _ (Or.inr (by show w.heap.size ≤ w.heap.size + 1 + 1; omega)) _⟩
theorem QS.v8 (z : Int) : QS w (W.setCell ⟨w.heap.size + 1 + 1, 8, none⟩ (.int .i64 z)) s k bd e t u fx ar r1 c1 x1 y1 z c2 x2 y2 := ⟨h.d.setO _ _ _ (by omega), h.a.setO _ _ _ (by omega), h.v.s8 z, h.f.setCell _ (Or.inr (by show w.heap.size ≤ w.heap.size + 1 + 1; omega)) _⟩
theorem QS.v9 (z : Int) : QS w (W.setCell ⟨w.heap.size + 1 + 1, 9, none⟩ (.int .i64 z)) s k bd e t u fx ar r1 c1 x1 y1 r2 z x2 y2 := ⟨h.d.setO _ _ _ (by omega), h.a.setO _ _ _ (by omega), h.v.s9 z, h.f.setCell _ (Or.inr (by show w.heap.size ≤ w.heap.size + 1 + 1; omega)) _⟩
theorem QS.v10 (z : Bool) : QS w (W.setCell ⟨w.heap.size + 1 + 1, 10, none⟩ (.bool z)) s k bd e t u fx ar r1 c1 x1 y1 r2 c2 z y2 := ⟨h.d.setO _ _ _ (by omega), h.a.setO _ _ _ (by omega), h.v.s10 z, h.f.setCell _ (Or.inr (by show w.heap.size ≤ w.heap.size + 1 + 1; omega)) _⟩
theorem QS.v11 (z : Bool) : QS w (W.setCell ⟨w.heap.size + 1 + 1, 11, none⟩ (.bool z)) s k bd e t u fx ar r1 c1 x1 y1 r2 c2 x2 z := ⟨h.d.setO _ _ _ (by omega), h.a.setO _ _ _ (by omega), h.v.s11 z, h.f.setCell _ (Or.inr (by show w.heap.size ≤ w.heap.size + 1 + 1; omega)) _⟩
theorem QS.tabs (hT : Tabs w) : ∀ W2, Fr (oneB (w.heap.size + 1)) W W2 → Tabs W2 := fun W2 hF => hT.keep (h.f.then hF (fun k hk => Or.inr (by unfold oneB at hk; omega)))
end
theorem parseD_laid (s : ByteArray) (w : World) : ∃ W0, ((w.alloc (.cells #[.string ⟨#[]⟩, .string ⟨#[]⟩, .bool false, .bool false, .int .i64 0, .int .i64 0, .bool false, .bool false, .int .i64 0, .int .i64 0, .bool false, .bool false] 25 (0, 0))).alloc (.cells #[.string s, .int .i64 0, .int .i64 0, .int .i64 0] 47 (0, 0))).alloc (.cells #[.string ⟨#[]⟩, .string ⟨#[]⟩, .bool false, .bool false, .int .i64 0, .int .i64 0, .bool false, .bool false, .int .i64 0, .int .i64 0, .bool false, .bool false] 25 (0, 0)) = W0 ∧ QS w W0 s 0 0 0 ⟨#[]⟩ ⟨#[]⟩ false false 0 0 false false 0 0 false false :=
  ⟨_, rfl, ⟨alloc_old (alloc_last _ _ _ (by simp))⟩, ⟨alloc_old (alloc_old (alloc_last _ _ _ rfl))⟩, ⟨alloc_last _ _ _ (by simp)⟩, (((Fr.refl noB w).alloc _).alloc _).alloc _⟩
theorem ptA_le {s : ByteArray} {p z : Nat} {k : Nat × Nat × Bool × Bool} (h : ptA s p = .ok (k, z)) : z ≤ s.size := by
  unfold ptA at h
  split at h
  · rename_i hi
    have := isAt_size hi
    exact (crA_le (by omega) h).2
  · cases h
theorem failL_ok (pb : Nat) (s : ByteArray) (p bd a : Nat) (ai : Int) (ha : ai = (a : Int)) (d : Int) (w : World) (h : DAt w pb s p bd 0) :
    Calls Tryd.prog 20 #[.pointer (some ⟨pb, 0, none⟩), .int .i64 ai, .int .i64 d] w fun r w' => r = .returned (.tuple #[]) ∧ DAt w' pb s p a d ∧ Fr (oneB pb) w w' := by
  subst ha
  exact fail_ok pb s p bd a d w h
#print axioms parseD_laid
end Go.Proofs.YtiokbpknaldbaaaDoor
