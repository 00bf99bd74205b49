/- The document's reader: a corner. -/
import Derived.Test.YtiokbpknaldbaaaDoorRDr
namespace Go.Proofs.YtiokbpknaldbaaaDoor
open Go.RowKit Go.Shelf

theorem takeL_ok (pb : Nat) (s : ByteArray) (p bd c : Nat) (ci : Int) (hci : ci = (c : Int)) (w : World) (h : DAt w pb s p bd 0) (hz : s.size ≤ 140737488355328) (hp : p ≤ s.size) :
    Calls Tryd.prog 18 #[.pointer (some ⟨pb, 0, none⟩), .int .u8 ci] w fun r w' => r = .returned (.bool (isAt s c p)) ∧ DAt w' pb s (past s c p) bd 0 ∧ Fr (oneB pb) w w' := by
  subst hci
  exact take_ok pb s p bd c w h hz hp
theorem takeL_e (pb : Nat) (s : ByteArray) (p bd c : Nat) (ci : Int) (hci : ci = (c : Int)) (e : Int) (w : World) (h : DAt w pb s p bd e) (he : ¬ e = 0) :
    Calls Tryd.prog 18 #[.pointer (some ⟨pb, 0, none⟩), .int .u8 ci] w fun r w' => r = .returned (.bool false) ∧ DAt w' pb s p bd e ∧ Fr (oneB pb) w w' := by
  subst hci
  exact take_e pb s p bd c e w h he
/-- What lies there while a corner is read. -/
structure CS (w W : World) (pb : Nat) (s : ByteArray) (k bd : Nat) (e : Int) (r c : Int) (x y : Bool) : Prop where
  d : DAt W pb s k bd e
  a : KAt W w.heap.size 0 0 false false
  v : KAt W (w.heap.size + 1) r c x y
  f : Fr (oneB pb) w W
  n : pb < w.heap.size
section
variable {w W W' : World} {pb : Nat} {s : ByteArray} {k bd : Nat} {e : Int} {r c : Int} {x y : Bool} (h : CS w W pb s k bd e r c x y)
include h
theorem CS.n2 : ¬ oneB pb w.heap.size := fun e => by have := h.n; unfold oneB at e; omega
theorem CS.n3 : ¬ oneB pb (w.heap.size + 1) := fun e => by have := h.n; unfold oneB at e; omega
theorem CS.go (hF : Fr noB W W') : CS w W' pb s k bd e r c x y := ⟨h.d.fr hF id, h.a.fr hF id, h.v.fr hF id, h.f.trans hF.weak, h.n⟩
theorem CS.call {k2 bd2 : Nat} {e2 : Int} (hF : Fr (oneB pb) W W') (hD : DAt W' pb s k2 bd2 e2) : CS w W' pb s k2 bd2 e2 r c x y := ⟨hD, h.a.fr hF h.n2, h.v.fr hF h.n3, h.f.trans hF, h.n⟩
theorem CS.at1 (q : Nat) : CS w (W.setCell ⟨pb, 1, none⟩ (.int .i64 (q : Int))) pb s q bd e r c x y := ⟨h.d.s1 q, h.a.setO _ _ _ (by have := h.n; omega), h.v.setO _ _ _ (by have := h.n; omega), h.f.setOne _ _, h.n⟩
theorem CS.b0 (q : Int) : CS w (W.setCell ⟨w.heap.size + 1, 0, none⟩ (.int .i64 q)) pb s k bd e q c x y := ⟨h.d.setO _ _ _ (by have := h.n; omega), h.a.setO _ _ _ (by omega), h.v.s0 q, h.f.setCell _ (Or.inr (Nat.le_succ _)) _, h.n⟩
theorem CS.b1 (q : Int) : CS w (W.setCell ⟨w.heap.size + 1, 1, none⟩ (.int .i64 q)) pb s k bd e r q x y := ⟨h.d.setO _ _ _ (by have := h.n; omega), h.a.setO _ _ _ (by omega), h.v.s1 q, h.f.setCell _ (Or.inr (Nat.le_succ _)) _, h.n⟩
theorem CS.b2 (q : Bool) : CS w (W.setCell ⟨w.heap.size + 1, 2, none⟩ (.bool q)) pb s k bd e r c q y := ⟨h.d.setO _ _ _ (by have := h.n; omega), h.a.setO _ _ _ (by omega), h.v.s2 q, h.f.setCell _ (Or.inr (Nat.le_succ _)) _, h.n⟩
theorem CS.b3 (q : Bool) : CS w (W.setCell ⟨w.heap.size + 1, 3, none⟩ (.bool q)) pb s k bd e r c x q := ⟨h.d.setO _ _ _ (by have := h.n; omega), h.a.setO _ _ _ (by omega), h.v.s3 q, h.f.setCell _ (Or.inr (Nat.le_succ _)) _, h.n⟩
theorem CS.fin : ∃ W2, (((W.setCell ⟨w.heap.size, 0, none⟩ (.int .i64 r)).setCell ⟨w.heap.size, 1, none⟩ (.int .i64 c)).setCell ⟨w.heap.size, 2, none⟩ (.bool x)).setCell ⟨w.heap.size, 3, none⟩ (.bool y) = W2 ∧ KAt W2 w.heap.size r c x y ∧ DAt W2 pb s k bd e ∧ Fr (oneB pb) w W2 := by
  have := h.n
  exact ⟨_, rfl, (((h.a.s0 r).s1 c).s2 x).s3 y, (((h.d.setO _ _ _ (by omega)).setO _ _ _ (by omega)).setO _ _ _ (by omega)).setO _ _ _ (by omega), (((h.f.setCell ⟨w.heap.size, 0, none⟩ (Or.inr (Nat.le_refl _)) _).setCell ⟨w.heap.size, 1, none⟩ (Or.inr (Nat.le_refl _)) _).setCell ⟨w.heap.size, 2, none⟩ (Or.inr (Nat.le_refl _)) _).setCell ⟨w.heap.size, 3, none⟩ (Or.inr (Nat.le_refl _)) _⟩
end
theorem corner_laid (w : World) (pb : Nat) (s : ByteArray) (p bd : Nat) (e : Int) (h : DAt w pb s p bd e) : ∃ W0, (w.alloc (.cells #[.int .i64 0, .int .i64 0, .bool false, .bool false] 23 (0, 0))).alloc (.cells #[.int .i64 0, .int .i64 0, .bool false, .bool false] 23 (0, 0)) = W0 ∧ CS w W0 pb s p bd e 0 0 false false := by
  have f : Fr noB w ((w.alloc (.cells #[.int .i64 0, .int .i64 0, .bool false, .bool false] 23 (0, 0))).alloc (.cells #[.int .i64 0, .int .i64 0, .bool false, .bool false] 23 (0, 0))) := ((Fr.refl noB w).alloc _).alloc _
  exact ⟨_, rfl, h.fr f id, ⟨(Below.heap_alloc _ _ _ (by simp)).trans (heap_alloc_new w _)⟩, ⟨by
    have e := heap_alloc_new (w.alloc (.cells #[.int .i64 0, .int .i64 0, .bool false, .bool false] 23 (0, 0))) (.cells #[.int .i64 0, .int .i64 0, .bool false, .bool false] 23 (0, 0))
    rwa [World.size_alloc] at e⟩, f.weak, h.lt⟩
set_option maxRecDepth 100000 in
set_option maxHeartbeats 4000000 in
theorem rcorD_e (pb : Nat) (s : ByteArray) (p bd : Nat) (w : World) (ee : Int) (h : DAt w pb s p bd ee) (he : ¬ ee = 0) :
    Calls Tryd.prog 21 #[.pointer (some ⟨pb, 0, none⟩)] w fun r w' => r = .returned (.agg #[.int .i64 (-1), .int .i64 0, .bool false, .bool false]) ∧ DAt w' pb s p bd ee ∧ Fr (oneB pb) w w' := by
  obtain ⟨W0, hW0, hC0⟩ := corner_laid w pb s p bd ee h
  have he2 : (ee == 0) = false := by simpa using he
  clear h
  go_enter Tryd.func21, Tryd.ntmps21
  go_wp2_with (first
    | (go_at_call 18; (with_reducible refine (takeL_e pb s p bd 46 46 rfl ee _ hC0.d he).mono ?_); rintro e w1 ⟨rfl, hD1, hF1⟩; have hC1 := hC0.call hF1 hD1; have d0 := hC1.d.c0; have d1 := hC1.d.c1; have d2 := hC1.d.c2; have d3 := hC1.d.c3)
    | (go_at_call 20; (with_reducible refine (fail_e pb s p bd _ 110 ee _ hC1.d he).mono ?_); rintro e w2 ⟨rfl, hD2, hF2⟩; clear d0 d1 d2 d3; have hC2 := hC1.call hF2 hD2)
    | (go_at_call 18; (with_reducible refine (takeL_e pb s p bd 36 36 rfl ee _ hC2.d he).mono ?_); rintro e w3 ⟨rfl, hD3, hF3⟩; have hC3 := hC2.call hF3 hD3; have d0 := hC3.d.c0; have d1 := hC3.d.c1; have d2 := hC3.d.c2; have d3 := hC3.d.c3; have x0 := hC3.v.c0; have x1 := hC3.v.c1; have x2 := hC3.v.c2; have x3 := hC3.v.c3; have xf := hC3.v.f))
  have hC4 := hC3.b3 false
  clear d0 d1 d2 d3 x0 x1 x2 x3 xf
  generalize World.setCell _ _ _ = W4 at *
  go_loopw [] (fun wr => Hid (CS w wr pb s p bd ee 0 0 false false)) (fun _ => 0)
  case atStart => exact hC4
  case round =>
    have hC5 := hrel.out
    have d0 := hC5.d.c0; have d1 := hC5.d.c1; have d2 := hC5.d.c2; have d3 := hC5.d.c3
    have HC5 : Hid _ := hC5
    clear hC5 hC4 hC3 hC2 hC1 hC0 hrel
    go_wp2_with fail
    go_quiet (fail)
    have hC6 := HC5.out.go ((Fr.refl noB _).drewN nq)
    obtain ⟨W6, hW6⟩ : ∃ W6, wr.drewN nq = W6 := ⟨_, rfl⟩
    rw [hW6] at hC6
    rw [hW6]
    clear d0 d1 d2 d3 hW6
    have d0 := hC6.d.c0; have d1 := hC6.d.c1; have d2 := hC6.d.c2; have d3 := hC6.d.c3
    go_wp2_with (first
      | (go_at_call 18; (with_reducible refine (takeL_e pb s p bd 36 36 rfl ee _ hC6.d he).mono ?_); rintro e wt ⟨rfl, hDt, hFt⟩; have hCt := hC6.call hFt hDt; have t0 := hCt.v.c0; have t1 := hCt.v.c1; have t2 := hCt.v.c2; have t3 := hCt.v.c3; have tf := hCt.v.f)
      | (go_at_call 38; (with_reducible refine (rrowD_e pb s p bd ee _ (hCt.b2 false).d he).mono ?_); rintro e wu ⟨rfl, hDu, hFu⟩; have hCu := (hCt.b2 false).call hFu hDu; clear t0 t1 t2 t3 tf; have u0 := hCu.v.c0; have u1 := hCu.v.c1; have u2 := hCu.v.c2; have u3 := hCu.v.c3; have uf := hCu.v.f; have a0 := hCu.a.c0; have a1 := hCu.a.c1; have a2 := hCu.a.c2; have a3 := hCu.a.c3; have af := hCu.a.f))
    obtain ⟨W9, hW9, hK9, hD9, hF9⟩ := (hCu.b0 (-1)).fin
    rw [hW9]
    refine bodyPost_ret (kret Tryd.results21 _ _ w.heap.size rfl hK9) rfl ?_
    exact ⟨rfl, hD9, hF9⟩
#print axioms rcorD_e
set_option maxRecDepth 100000 in
set_option maxHeartbeats 4000000 in
theorem rcorD_np (pb : Nat) (s : ByteArray) (p bd : Nat) (w : World) (h : DAt w pb s p bd 0) (hz : s.size ≤ 140737488355328) (hp : p ≤ s.size) (hi : isAt s 46 p = false) :
    Calls Tryd.prog 21 #[.pointer (some ⟨pb, 0, none⟩)] w fun r w' => (∀ kk q, ptA s p = .ok (kk, q) → r = .returned (.agg #[.int .i64 (kk.1 : Int), .int .i64 (kk.2.1 : Int), .bool kk.2.2.1, .bool kk.2.2.2]) ∧ DAt w' pb s q bd 0 ∧ Fr (oneB pb) w w') ∧ (∀ a d, ptA s p = .error (a, d) → ∃ (v1 v2 : Int) (v3 v4 : Bool) (q : Nat), r = .returned (.agg #[.int .i64 v1, .int .i64 v2, .bool v3, .bool v4]) ∧ ¬ d = 0 ∧ q ≤ s.size ∧ DAt w' pb s q a d ∧ Fr (oneB pb) w w') := by
  obtain ⟨W0, hW0, hC0⟩ := corner_laid w pb s p bd 0 h
  have HS : Hid (ptA s p = .error (p, 110)) := by show ptA s p = _; unfold ptA; rw [if_neg (by rw [hi]; simp)]
  have HT := takeL_ok pb s p bd 46 46 rfl W0 hC0.d hz hp
  rw [hi, show past s 46 p = p by unfold past; rw [if_neg (by rw [hi]; simp)]] at HT
  clear h hi
  go_enter Tryd.func21, Tryd.ntmps21
  go_wp2_with (first
    | (go_at_call 18; (with_reducible refine HT.mono ?_); rintro e w1 ⟨rfl, hD1, hF1⟩; have hC1 := hC0.call hF1 hD1; have d0 := hC1.d.c0; have d1 := hC1.d.c1; have d2 := hC1.d.c2; have d3 := hC1.d.c3)
    | (go_at_call 20; (with_reducible refine (fail_ok pb s p bd p 110 _ hC1.d).mono ?_); rintro e w2 ⟨rfl, hD2, hF2⟩; clear d0 d1 d2 d3; have hC2 := hC1.call hF2 hD2)
    | (go_at_call 18; (with_reducible refine (takeL_e pb s p p 36 36 rfl 110 _ hC2.d (by decide)).mono ?_); rintro e w3 ⟨rfl, hD3, hF3⟩; have hC3 := hC2.call hF3 hD3; have d0 := hC3.d.c0; have d1 := hC3.d.c1; have d2 := hC3.d.c2; have d3 := hC3.d.c3; have x0 := hC3.v.c0; have x1 := hC3.v.c1; have x2 := hC3.v.c2; have x3 := hC3.v.c3; have xf := hC3.v.f))
  have hC4 := hC3.b3 false
  clear d0 d1 d2 d3 x0 x1 x2 x3 xf
  generalize World.setCell _ _ _ = W4 at *
  go_loopw [] (fun wr => Hid (CS w wr pb s p p 110 0 0 false false)) (fun _ => 0)
  case atStart => exact hC4
  case round =>
    have hC5 := hrel.out
    have d0 := hC5.d.c0; have d1 := hC5.d.c1; have d2 := hC5.d.c2; have d3 := hC5.d.c3
    have HC5 : Hid _ := hC5
    clear hC5 hC4 hC3 hC2 hC1 hC0 hrel
    go_wp2_with fail
    go_quiet (fail)
    have hC6 := HC5.out.go ((Fr.refl noB _).drewN nq)
    obtain ⟨W6, hW6⟩ : ∃ W6, wr.drewN nq = W6 := ⟨_, rfl⟩
    rw [hW6] at hC6
    rw [hW6]
    clear d0 d1 d2 d3 hW6
    have d0 := hC6.d.c0; have d1 := hC6.d.c1; have d2 := hC6.d.c2; have d3 := hC6.d.c3
    go_wp2_with (first
      | (go_at_call 18; (with_reducible refine (takeL_e pb s p p 36 36 rfl 110 _ hC6.d (by decide)).mono ?_); rintro e wt ⟨rfl, hDt, hFt⟩; have hCt := hC6.call hFt hDt; have t0 := hCt.v.c0; have t1 := hCt.v.c1; have t2 := hCt.v.c2; have t3 := hCt.v.c3; have tf := hCt.v.f)
      | (go_at_call 38; (with_reducible refine (rrowD_e pb s p p 110 _ (hCt.b2 false).d (by decide)).mono ?_); rintro e wu ⟨rfl, hDu, hFu⟩; have hCu := (hCt.b2 false).call hFu hDu; clear t0 t1 t2 t3 tf; have u0 := hCu.v.c0; have u1 := hCu.v.c1; have u2 := hCu.v.c2; have u3 := hCu.v.c3; have uf := hCu.v.f; have a0 := hCu.a.c0; have a1 := hCu.a.c1; have a2 := hCu.a.c2; have a3 := hCu.a.c3; have af := hCu.a.f))
    obtain ⟨W9, hW9, hK9, hD9, hF9⟩ := (hCu.b0 (-1)).fin
    rw [hW9]
    refine bodyPost_ret (kret Tryd.results21 _ _ w.heap.size rfl hK9) rfl ?_
    refine ⟨fun kk q h => ?_, fun a d h => ?_⟩
    · rw [HS.out] at h; cases h
    · rw [HS.out] at h; cases h
      exact ⟨_, _, _, _, p, rfl, by decide, hp, hD9, hF9⟩
#print axioms rcorD_np
set_option maxRecDepth 100000 in
set_option maxHeartbeats 16000000 in
theorem rcorD_pt (pb : Nat) (s : ByteArray) (p bd : Nat) (w : World) (h : DAt w pb s p bd 0) (hz : s.size ≤ 140737488355328) (hp : p ≤ s.size) (hi : isAt s 46 p = true) :
    Calls Tryd.prog 21 #[.pointer (some ⟨pb, 0, none⟩)] w fun r w' => (∀ kk q, ptA s p = .ok (kk, q) → r = .returned (.agg #[.int .i64 (kk.1 : Int), .int .i64 (kk.2.1 : Int), .bool kk.2.2.1, .bool kk.2.2.2]) ∧ DAt w' pb s q bd 0 ∧ Fr (oneB pb) w w') ∧ (∀ a d, ptA s p = .error (a, d) → ∃ (v1 v2 : Int) (v3 v4 : Bool) (q : Nat), r = .returned (.agg #[.int .i64 v1, .int .i64 v2, .bool v3, .bool v4]) ∧ ¬ d = 0 ∧ q ≤ s.size ∧ DAt w' pb s q a d ∧ Fr (oneB pb) w w') := by
  obtain ⟨W0, hW0, hC0⟩ := corner_laid w pb s p bd 0 h
  have hlt := isAt_size hi
  have hp1 := past_le s 36 (p + 1) (by omega)
  have HS0 : Hid (ptA s p = crA s (p + 1)) := by show ptA s p = _; unfold ptA; rw [if_pos hi]
  have HT := takeL_ok pb s p bd 46 46 rfl W0 hC0.d hz hp
  rw [hi, show past s 46 p = p + 1 by unfold past; rw [if_pos hi]] at HT
  have HT1 : Hid (∀ W, DAt W pb s (p + 1) bd 0 → _) := fun W hW => takeL_ok pb s (p + 1) bd 36 36 rfl W hW hz (by omega)
  have HCR : Hid (crA s (p + 1) = match coA s (past s 36 (p + 1)) with
    | .error e => .error e
    | .ok (c, q) => match roA s (past s 36 q) with
      | .error e => .error e
      | .ok (r, z) => .ok ((r, c, isAt s 36 q, isAt s 36 (p + 1)), z)) := rfl
  generalize isAt s 36 (p + 1) = y at *
  generalize past s 36 (p + 1) = p2 at *
  obtain ⟨E, hE⟩ : ∃ E, endK capK s p2 = E := ⟨_, rfl⟩
  have HE : Hid (endK capK s p2 = E) := hE
  have hEs : E ≤ s.size := by rw [← hE]; exact endK_le capK s p2 hp1.2
  have hpE : p2 ≤ E := by rw [← hE]; exact endK_ge capK s p2
  clear h hi hE
  go_enter Tryd.func21, Tryd.ntmps21
  go_wp2_with (first
    | (go_at_call 18; (with_reducible refine HT.mono ?_); rintro e w1 ⟨rfl, hD1, hF1⟩; have hC1 := hC0.call hF1 hD1)
    | (go_at_call 18; (with_reducible refine (HT1.out _ hC1.d).mono ?_); rintro e w3 ⟨rfl, hD3, hF3⟩; have hC3 := hC1.call hF3 hD3; have d0 := hC3.d.c0; have d1 := hC3.d.c1; have d2 := hC3.d.c2; have d3 := hC3.d.c3; have x0 := hC3.v.c0; have x1 := hC3.v.c1; have x2 := hC3.v.c2; have x3 := hC3.v.c3; have xf := hC3.v.f))
  have hC4 := hC3.b3 y
  clear d0 d1 d2 d3 x0 x1 x2 x3 xf
  generalize World.setCell _ _ _ = W4 at *
  go_loopw [] (fun wr => ∃ k : Nat, Hid (CS w wr pb s k bd 0 0 0 false y) ∧ k ≤ E ∧ p2 ≤ k ∧ Hid (endK capK s k = E)) (fun wr => s.size - posD wr pb)
  case atStart => exact ⟨p2, hC4, hpE, Nat.le_refl _, HE⟩
  case round =>
    obtain ⟨k, HC5, hk, hk2, HK⟩ := hrel
    have d0 := HC5.out.d.c0; have d1 := HC5.out.d.c1; have d2 := HC5.out.d.c2; have d3 := HC5.out.d.c3
    have df := HC5.out.d.f
    clear hC4 hC3 hC1 hC0
    by_cases hgo : k < s.size ∧ capK (byt s k) = true
    · obtain ⟨hkl, hdg⟩ := hgo
      have hl : (k : Int) < (s.size : Int) := by omega
      have hst := endK_step capK s k hkl hdg
      have hb := byt_at s k hkl
      have hkE : k < E := by
        have e := HK.out
        rw [hst] at e
        have := endK_ge capK s (k + 1)
        omega
      obtain ⟨b, hbb⟩ : ∃ b, byt s k = b := ⟨_, rfl⟩
      have hbl := byt_lt s k
      rw [hbb] at hb hbl hdg
      have hx : ∀ hh, (s[k]'hh).toNat = b := fun _ => hb
      have hdd := capK_bd hdg
      have HK3 : Hid (endK capK s (k + 1) = E) := hst.symm.trans HK.out
      have g1 : (65 : Int) ≤ (b : Int) := by omega
      have g2 : (b : Int) ≤ 90 := by omega
      clear HK hst hb hbb hdg HS0 HCR HE hdd
      go_wp2_with fail
      go_quiet (fail)
      go_wp2_with fail
      go_roundw
      case rel => exact ⟨k + 1, (HC5.out.go ((Fr.refl noB _).drewN _)).at1 (k + 1), by omega, by omega, HK3⟩
      case measure =>
        have e : ∀ m, posD ((wr.drewN m).setCell ⟨pb, 1, none⟩ (.int .i64 ((k : Int) + 1))) pb = k + 1 := fun m => ((HC5.out.go ((Fr.refl noB _).drewN m)).at1 (k + 1)).d.pos
        rw [e, HC5.out.d.pos]
        omega
    · have hkE : E = k := by rw [← HK.out]; exact endK_stop capK s k hgo
      have HX : (¬ k < s.size ∧ decide ((k : Int) < (s.size : Int)) = false) ∨ ((k : Int) < (s.size : Int) ∧ ∃ b : Nat, (∀ hh, (s[k]'hh).toNat = b) ∧ b < 256 ∧ decide ((65 : Int) ≤ (b : Int)) = false) ∨ ((k : Int) < (s.size : Int) ∧ ∃ b : Nat, (∀ hh, (s[k]'hh).toNat = b) ∧ b < 256 ∧ (65 : Int) ≤ (b : Int) ∧ ¬ (b : Int) ≤ 90) := by
        by_cases hkl : k < s.size
        · right
          have hb := byt_at s k hkl
          have hnd : ¬ (65 ≤ byt s k ∧ byt s k ≤ 90) := fun e => hgo ⟨hkl, by simpa [capK] using e⟩
          by_cases h65 : 65 ≤ byt s k
          · exact Or.inr ⟨by omega, byt s k, fun _ => hb, byt_lt s k, by omega, by omega⟩
          · exact Or.inl ⟨by omega, byt s k, fun _ => hb, byt_lt s k, decide_eq_false (by omega)⟩
        · exact Or.inl ⟨hkl, decide_eq_false (by omega)⟩
      have hco : coA s p2 = match colF (s.extract p2 E) with
          | some n => .ok (n, E)
          | none => .error (p2, 110) := by unfold coA; rw [HE.out]; rfl
      subst hkE
      clear HE HK hgo
      by_cases hEp : E = p2
      · subst hEp
        rw [colF_nil (s.extract E E) (by simp)] at hco
        have HS : Hid (ptA s p = .error (E, 110)) := by show ptA s p = _; rw [HS0.out, HCR.out, hco]
        clear hco HS0 HCR HT1
        rcases HX with ⟨hkl, hkl2⟩ | ⟨hl, b, hx, hbl, h65⟩ | ⟨hl, b, hx, hbl, h65, h90⟩
        all_goals
          go_wp2_with fail
          go_quiet (fail)
          have hC6 := HC5.out.go ((Fr.refl noB _).drewN nq)
          obtain ⟨W6, hW6⟩ : ∃ W6, wr.drewN nq = W6 := ⟨_, rfl⟩
          rw [hW6] at hC6
          rw [hW6]
          clear d0 d1 d2 d3 hW6
          have d0 := hC6.d.c0; have d1 := hC6.d.c1; have d2 := hC6.d.c2; have d3 := hC6.d.c3
          go_wp2_with (first
            | (go_at_call 20; (with_reducible refine (fail_ok pb s E bd E 110 _ hC6.d).mono ?_); rintro e w7 ⟨rfl, hD7, hF7⟩; clear d0 d1 d2 d3; have hC7 := hC6.call hF7 hD7; have d0 := hC7.d.c0; have d1 := hC7.d.c1; have d2 := hC7.d.c2; have d3 := hC7.d.c3)
            | (go_at_call 18; (with_reducible refine (takeL_e pb s E E 36 36 rfl 110 _ hC7.d (by decide)).mono ?_); rintro e wt ⟨rfl, hDt, hFt⟩; have hCt := hC7.call hFt hDt; have t0 := hCt.v.c0; have t1 := hCt.v.c1; have t2 := hCt.v.c2; have t3 := hCt.v.c3; have tf := hCt.v.f)
            | (go_at_call 38; (with_reducible refine (rrowD_e pb s E E 110 _ (hCt.b2 false).d (by decide)).mono ?_); rintro e wu ⟨rfl, hDu, hFu⟩; have hCu := (hCt.b2 false).call hFu hDu; clear t0 t1 t2 t3 tf; have u0 := hCu.v.c0; have u1 := hCu.v.c1; have u2 := hCu.v.c2; have u3 := hCu.v.c3; have uf := hCu.v.f; have a0 := hCu.a.c0; have a1 := hCu.a.c1; have a2 := hCu.a.c2; have a3 := hCu.a.c3; have af := hCu.a.f))
          obtain ⟨W9, hW9, hK9, hD9, hF9⟩ := (hCu.b0 (-1)).fin
          rw [hW9]
          refine bodyPost_ret (kret Tryd.results21 _ _ w.heap.size rfl hK9) rfl ?_
          refine ⟨fun kk q h => ?_, fun a d h => ?_⟩
          · rw [HS.out] at h; cases h
          · rw [HS.out] at h; cases h
            exact ⟨_, _, _, _, E, rfl, by decide, hEs, hD9, hF9⟩
      · have hEi : ¬ (E : Int) = (p2 : Int) := by omega
        have HPC := fun W => rparseCol_any (s.extract p2 E) W
        obtain ⟨N, hN⟩ : ∃ N, s.extract p2 E = N := ⟨_, rfl⟩
        rw [hN] at HPC hco
        cases hcf : colF N with
        | none =>
          rw [hcf] at HPC hco
          simp only [colV] at HPC
          have HS : Hid (ptA s p = .error (p2, 110)) := by show ptA s p = _; rw [HS0.out, HCR.out, hco]
          clear hco HS0 HCR HT1 hcf hEp
          rcases HX with ⟨hkl, hkl2⟩ | ⟨hl, b, hx, hbl, h65⟩ | ⟨hl, b, hx, hbl, h65, h90⟩
          all_goals
            go_wp2_with fail
            go_quiet (fail)
            have hC6 := HC5.out.go ((Fr.refl noB _).drewN nq)
            obtain ⟨W6, hW6⟩ : ∃ W6, wr.drewN nq = W6 := ⟨_, rfl⟩
            rw [hW6] at hC6
            rw [hW6]
            clear d0 d1 d2 d3 hW6
            have d0 := hC6.d.c0; have d1 := hC6.d.c1; have d2 := hC6.d.c2; have d3 := hC6.d.c3
            go_wp2_with fail
            go_quiet ((go_at_call 37; exact Calls.quiet_of_same (HPC _)))
            have hC7 := hC6.go ((Fr.refl noB _).drewN nq)
            obtain ⟨W7, hW7⟩ : ∃ W7, W6.drewN nq = W7 := ⟨_, rfl⟩
            rw [hW7] at hC7
            rw [hW7]
            clear d0 d1 d2 d3 hW7
            go_wp2_with (first
              | (go_at_call 20; (with_reducible refine (fail_ok pb s E bd p2 110 _ hC7.d).mono ?_); rintro e w7 ⟨rfl, hD8, hF8⟩; have hC8 := hC7.call hF8 hD8; have x0 := hC8.v.c0; have x1 := hC8.v.c1; have x2 := hC8.v.c2; have x3 := hC8.v.c3; have xf := hC8.v.f)
              | (go_at_call 18; (with_reducible refine (takeL_e pb s E p2 36 36 rfl 110 _ (hC8.b1 0).d (by decide)).mono ?_); rintro e wt ⟨rfl, hDt, hFt⟩; clear x0 x1 x2 x3 xf; have hCt := (hC8.b1 0).call hFt hDt; have t0 := hCt.v.c0; have t1 := hCt.v.c1; have t2 := hCt.v.c2; have t3 := hCt.v.c3; have tf := hCt.v.f)
              | (go_at_call 38; (with_reducible refine (rrowD_e pb s E p2 110 _ (hCt.b2 false).d (by decide)).mono ?_); rintro e wu ⟨rfl, hDu, hFu⟩; have hCu := (hCt.b2 false).call hFu hDu; clear t0 t1 t2 t3 tf; have u0 := hCu.v.c0; have u1 := hCu.v.c1; have u2 := hCu.v.c2; have u3 := hCu.v.c3; have uf := hCu.v.f; have a0 := hCu.a.c0; have a1 := hCu.a.c1; have a2 := hCu.a.c2; have a3 := hCu.a.c3; have af := hCu.a.f))
            obtain ⟨W9, hW9, hK9, hD9, hF9⟩ := (hCu.b0 (-1)).fin
            rw [hW9]
            refine bodyPost_ret (kret Tryd.results21 _ _ w.heap.size rfl hK9) rfl ?_
            refine ⟨fun kk q h => ?_, fun a d h => ?_⟩
            · rw [HS.out] at h; cases h
            · rw [HS.out] at h; cases h
              exact ⟨_, _, _, _, E, rfl, by decide, hEs, hD9, hF9⟩
        | some n =>
          rw [hcf] at HPC hco
          simp only [colV] at HPC
          have hp3 := past_le s 36 E hEs
          have HT2 : Hid (∀ W, DAt W pb s E bd 0 → _) := fun W hW => takeL_ok pb s E bd 36 36 rfl W hW hz hEs
          have HRW : Hid (∀ W, DAt W pb s (past s 36 E) bd 0 → _) := fun W hW => rrowD_any pb s (past s 36 E) bd W hW hz hp3.2
          have HS1 : Hid (ptA s p = match roA s (past s 36 E) with
            | .error e => .error e
            | .ok (r, z) => .ok ((r, n, isAt s 36 E, y), z)) := by show ptA s p = _; rw [HS0.out, HCR.out, hco]
          generalize isAt s 36 E = x at *
          generalize past s 36 E = p3 at *
          cases hro : roA s p3 with
          | ok v =>
            obtain ⟨r, z⟩ := v
            have HRO : Hid (roA s p3 = .ok (r, z)) := hro
            have HS : Hid (ptA s p = .ok ((r, n, x, y), z)) := by show ptA s p = _; rw [HS1.out, hro]
            clear hco HS0 HCR HT1 hcf hEp HS1 hro hp3
            rcases HX with ⟨hkl, hkl2⟩ | ⟨hl, b, hx, hbl, h65⟩ | ⟨hl, b, hx, hbl, h65, h90⟩
            all_goals
              go_wp2_with fail
              go_quiet (fail)
              have hC6 := HC5.out.go ((Fr.refl noB _).drewN nq)
              obtain ⟨W6, hW6⟩ : ∃ W6, wr.drewN nq = W6 := ⟨_, rfl⟩
              rw [hW6] at hC6
              rw [hW6]
              clear d0 d1 d2 d3 hW6
              have d0 := hC6.d.c0; have d1 := hC6.d.c1; have d2 := hC6.d.c2; have d3 := hC6.d.c3
              go_wp2_with fail
              go_quiet ((go_at_call 37; exact Calls.quiet_of_same (HPC _)))
              have hC7 := hC6.go ((Fr.refl noB _).drewN nq)
              obtain ⟨W7, hW7⟩ : ∃ W7, W6.drewN nq = W7 := ⟨_, rfl⟩
              rw [hW7] at hC7
              rw [hW7]
              clear d0 d1 d2 d3 hW7
              have x0 := hC7.v.c0; have x1 := hC7.v.c1; have x2 := hC7.v.c2; have x3 := hC7.v.c3; have xf := hC7.v.f
              go_wp2_with (first
                | (go_at_call 18; (with_reducible refine (HT2.out _ (hC7.b1 (n : Int)).d).mono ?_); rintro e w8 ⟨rfl, hD8, hF8⟩; have hC8 := (hC7.b1 (n : Int)).call hF8 hD8; clear x0 x1 x2 x3 xf; have t0 := hC8.v.c0; have t1 := hC8.v.c1; have t2 := hC8.v.c2; have t3 := hC8.v.c3; have tf := hC8.v.f)
                | (go_at_call 38; (with_reducible refine (HRW.out _ (hC8.b2 x).d).mono ?_); rintro e w9 hh; obtain ⟨rfl, hD9a, hF9a⟩ := hh.1 r z HRO.out; have hCu := (hC8.b2 x).call hF9a hD9a; clear t0 t1 t2 t3 tf; have u0 := hCu.v.c0; have u1 := hCu.v.c1; have u2 := hCu.v.c2; have u3 := hCu.v.c3; have uf := hCu.v.f; have a0 := hCu.a.c0; have a1 := hCu.a.c1; have a2 := hCu.a.c2; have a3 := hCu.a.c3; have af := hCu.a.f))
              obtain ⟨W9, hW9, hK9, hD9, hF9⟩ := (hCu.b0 (r : Int)).fin
              rw [hW9]
              refine bodyPost_ret (kret Tryd.results21 _ _ w.heap.size rfl hK9) rfl ?_
              refine ⟨fun kk q h => ?_, fun a d h => ?_⟩
              · rw [HS.out] at h; cases h
                exact ⟨rfl, hD9, hF9⟩
              · rw [HS.out] at h; cases h
          | error v =>
            obtain ⟨ra, rd⟩ := v
            have HRO : Hid (roA s p3 = .error (ra, rd)) := hro
            have HS : Hid (ptA s p = .error (ra, rd)) := by show ptA s p = _; rw [HS1.out, hro]
            clear hco HS0 HCR HT1 hcf hEp HS1 hro hp3
            rcases HX with ⟨hkl, hkl2⟩ | ⟨hl, b, hx, hbl, h65⟩ | ⟨hl, b, hx, hbl, h65, h90⟩
            all_goals
              go_wp2_with fail
              go_quiet (fail)
              have hC6 := HC5.out.go ((Fr.refl noB _).drewN nq)
              obtain ⟨W6, hW6⟩ : ∃ W6, wr.drewN nq = W6 := ⟨_, rfl⟩
              rw [hW6] at hC6
              rw [hW6]
              clear d0 d1 d2 d3 hW6
              have d0 := hC6.d.c0; have d1 := hC6.d.c1; have d2 := hC6.d.c2; have d3 := hC6.d.c3
              go_wp2_with fail
              go_quiet ((go_at_call 37; exact Calls.quiet_of_same (HPC _)))
              have hC7 := hC6.go ((Fr.refl noB _).drewN nq)
              obtain ⟨W7, hW7⟩ : ∃ W7, W6.drewN nq = W7 := ⟨_, rfl⟩
              rw [hW7] at hC7
              rw [hW7]
              clear d0 d1 d2 d3 hW7
              have x0 := hC7.v.c0; have x1 := hC7.v.c1; have x2 := hC7.v.c2; have x3 := hC7.v.c3; have xf := hC7.v.f
              go_wp2_with (first
                | (go_at_call 18; (with_reducible refine (HT2.out _ (hC7.b1 (n : Int)).d).mono ?_); rintro e w8 ⟨rfl, hD8, hF8⟩; have hC8 := (hC7.b1 (n : Int)).call hF8 hD8; clear x0 x1 x2 x3 xf; have t0 := hC8.v.c0; have t1 := hC8.v.c1; have t2 := hC8.v.c2; have t3 := hC8.v.c3; have tf := hC8.v.f)
                | (go_at_call 38; (with_reducible refine (HRW.out _ (hC8.b2 x).d).mono ?_); rintro e w9 hh; obtain ⟨vv, qq, rfl, hdn, hqq, hD9a, hF9a⟩ := hh.2 ra rd HRO.out; have hCu := (hC8.b2 x).call hF9a hD9a; clear t0 t1 t2 t3 tf; have u0 := hCu.v.c0; have u1 := hCu.v.c1; have u2 := hCu.v.c2; have u3 := hCu.v.c3; have uf := hCu.v.f; have a0 := hCu.a.c0; have a1 := hCu.a.c1; have a2 := hCu.a.c2; have a3 := hCu.a.c3; have af := hCu.a.f))
              obtain ⟨W9, hW9, hK9, hD9, hF9⟩ := (hCu.b0 vv).fin
              rw [hW9]
              refine bodyPost_ret (kret Tryd.results21 _ _ w.heap.size rfl hK9) rfl ?_
              refine ⟨fun kk q h => ?_, fun a d h => ?_⟩
              · rw [HS.out] at h; cases h
              · rw [HS.out] at h; cases h
                exact ⟨_, _, _, _, qq, rfl, hdn, hqq, hD9, hF9⟩
#print axioms rcorD_pt
theorem rcorD_any (pb : Nat) (s : ByteArray) (p bd : Nat) (w : World) (h : DAt w pb s p bd 0) (hz : s.size ≤ 140737488355328) (hp : p ≤ s.size) :
    Calls Tryd.prog 21 #[.pointer (some ⟨pb, 0, none⟩)] w fun r w' => (∀ kk q, ptA s p = .ok (kk, q) → r = .returned (.agg #[.int .i64 (kk.1 : Int), .int .i64 (kk.2.1 : Int), .bool kk.2.2.1, .bool kk.2.2.2]) ∧ DAt w' pb s q bd 0 ∧ Fr (oneB pb) w w') ∧ (∀ a d, ptA s p = .error (a, d) → ∃ (v1 v2 : Int) (v3 v4 : Bool) (q : Nat), r = .returned (.agg #[.int .i64 v1, .int .i64 v2, .bool v3, .bool v4]) ∧ ¬ d = 0 ∧ q ≤ s.size ∧ DAt w' pb s q a d ∧ Fr (oneB pb) w w') := by
  cases hi : isAt s 46 p with
  | true => exact rcorD_pt pb s p bd w h hz hp hi
  | false => exact rcorD_np pb s p bd w h hz hp hi
end Go.Proofs.YtiokbpknaldbaaaDoor
