/- Columns, rows and names that the reader reads: where all is well, and where something is not. -/
import Derived.Test.YtiokbpknaldbaaaDoorRRn
namespace Go.Proofs.YtiokbpknaldbaaaDoor
open Go.RowKit Go.Shelf

theorem run_cap (rb : Nat) (s : ByteArray) (p : Nat) (w : World) (h : RdAt w rb s p) (hp : p ≤ s.size) (hz : s.size ≤ 140737488355328) :
    Calls Tryd.prog 49 #[.pointer (some ⟨rb, 0, none⟩), .func (.func 55) #[] #[]] w fun e w' => e = .returned (.string (s.extract p (endK capK s p))) ∧ RdAt w' rb s (endK capK s p) ∧ Fr (oneB rb) w w' :=
  run_any 55 capK false kin_cap (enters_of Tryd.func55 (by kernel_rfl) rfl) cap_any rb s p w h hp hz
theorem run_dig (rb : Nat) (s : ByteArray) (p : Nat) (w : World) (h : RdAt w rb s p) (hp : p ≤ s.size) (hz : s.size ≤ 140737488355328) :
    Calls Tryd.prog 49 #[.pointer (some ⟨rb, 0, none⟩), .func (.func 56) #[] #[]] w fun e w' => e = .returned (.string (s.extract p (endK digK s p))) ∧ RdAt w' rb s (endK digK s p) ∧ Fr (oneB rb) w w' :=
  run_any 56 digK false kin_dig (enters_of Tryd.func56 (by kernel_rfl) rfl) dig_any rb s p w h hp hz
theorem run_wrd (rb : Nat) (s : ByteArray) (p : Nat) (w : World) (h : RdAt w rb s p) (hp : p ≤ s.size) (hz : s.size ≤ 140737488355328) :
    Calls Tryd.prog 49 #[.pointer (some ⟨rb, 0, none⟩), .func (.func 50) #[] #[]] w fun e w' => e = .returned (.string (s.extract p (endK wrdK s p))) ∧ RdAt w' rb s (endK wrdK s p) ∧ Fr (oneB rb) w w' :=
  run_any 50 wrdK false kin_wrd (enters_of Tryd.func50 (by kernel_rfl) rfl) wrd_any rb s p w h hp hz
theorem run_nqu (rb : Nat) (s : ByteArray) (p : Nat) (w : World) (h : RdAt w rb s p) (hp : p ≤ s.size) (hz : s.size ≤ 140737488355328) :
    Calls Tryd.prog 49 #[.pointer (some ⟨rb, 0, none⟩), .func (.func 51) #[] #[]] w fun e w' => e = .returned (.string (s.extract p (endK nquK s p))) ∧ RdAt w' rb s (endK nquK s p) ∧ Fr (oneB rb) w w' :=
  run_any 51 nquK true kin_nqu (enters_of Tryd.func51 (by kernel_rfl) rfl) nqu_any rb s p w h hp hz

set_option maxRecDepth 100000 in
set_option maxHeartbeats 2000000 in
theorem rcol_ok (rb : Nat) (s : ByteArray) (p n q : Nat) (w : World) (h : RdAt w rb s p) (hp : p ≤ s.size) (hz : s.size ≤ 140737488355328) (hc : coA s p = .ok (n, q)) :
    Calls Tryd.prog 45 #[.pointer (some ⟨rb, 0, none⟩)] w fun e w' => e = .returned (.int .i64 (n : Int)) ∧ RdAt w' rb s q ∧ Fr (oneB rb) w w' := by
  have d1 := h.c1
  have H1 := run_cap rb s p w h hp hz
  have H2 := parseCol_any (s.extract p (endK capK s p))
  unfold coA at hc
  split at hc
  case h_2 => cases hc
  rename_i m hm
  cases hc
  rw [hm] at H2
  unfold colV at H2
  have HH := hold_ok
  clear hm h
  generalize s.extract p (endK capK s p) = t at *
  generalize endK capK s p = q at *
  go_enter Tryd.func45, Tryd.ntmps45
  go_wp2_with (first | (go_at_call 49; refine H1.mono ?_; rintro e w1 ⟨rfl, hR, hF1⟩) | (go_at_call 54; refine (H2 _).mono ?_; rintro e w2 ⟨rfl, hF2⟩) | (go_at_call 30; refine (HH _ _ _).mono ?_; rintro e w3 ⟨rfl, rfl⟩))
  go_ret
  exact ⟨rfl, hR.fr hF2 id, hF1.trans hF2.weak⟩
set_option maxRecDepth 100000 in
set_option maxHeartbeats 2000000 in
theorem rcol_no (rb : Nat) (s : ByteArray) (p a : Nat) (c : Int) (w : World) (h : RdAt w rb s p) (hp : p ≤ s.size) (hz : s.size ≤ 140737488355328) (hc : coA s p = .error (a, c)) :
    Calls Tryd.prog 45 #[.pointer (some ⟨rb, 0, none⟩)] w fun e w' => e = thr a c ∧ Fr (oneB rb) w w' := by
  have d1 := h.c1
  have H1 := run_cap rb s p w h hp hz
  have H2 := parseCol_any (s.extract p (endK capK s p))
  unfold coA at hc
  split at hc
  case h_1 => cases hc
  rename_i hm
  cases hc
  rw [hm] at H2
  unfold colV at H2
  have HH := hold_no p 110
  clear hm h
  generalize s.extract p (endK capK s p) = t at *
  generalize endK capK s p = q at *
  go_enter Tryd.func45, Tryd.ntmps45
  go_wp2_with (first | (go_at_call 49; refine H1.mono ?_; rintro e w1 ⟨rfl, hR, hF1⟩) | (go_at_call 54; refine (H2 _).mono ?_; rintro e w2 ⟨rfl, hF2⟩) | (go_at_call 30; refine (HH _).mono ?_; rintro e w3 ⟨rfl, rfl⟩; exact ⟨rfl, rfl, hF1.trans hF2.weak⟩))
#print axioms rcol_ok
#print axioms rcol_no
end Go.Proofs.YtiokbpknaldbaaaDoor
