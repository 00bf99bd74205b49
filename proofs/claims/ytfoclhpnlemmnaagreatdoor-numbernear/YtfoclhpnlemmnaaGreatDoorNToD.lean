/- dayOf, ToDate, Weekday: the program's contracts. -/
import Derived.Test.YtfoclhpnlemmnaaGreatDoorNFin
namespace Go.Proofs.YtfoclhpnlemmnaaGreatDoor
open Go.RowKit Ieee

/-- A float against a whole number: how they stand. -/
theorem order_int {b c : Nat} {f n : Int} (hb : Fin b) (hf : V b = f * (D : Int)) (hc : c = FloatKind.f64.nearest n) (h1 : -9007199254740992 ≤ n) (h2 : n ≤ 9007199254740992) : double.order b c = some (compare f n) := by
  subst hc
  obtain ⟨k1, k2⟩ := ofInt_V n h1 h2
  rw [order_V hb k1, hf, k2, cmp_ints]
theorem cmp_lt (f n : Int) : (some (compare f n) == some Ordering.lt) = decide (f < n) := by
  rw [Bool.eq_iff_iff]
  simp [Int.compare_eq_lt]
theorem cmp_gt (f n : Int) : (some (compare f n) == some Ordering.gt) = decide (n < f) := by
  rw [Bool.eq_iff_iff]
  simp [Int.compare_eq_gt]
theorem cmp_eq (f n : Int) : (some (compare f n) == some Ordering.eq) = decide (f = n) := by
  rw [Bool.eq_iff_iff]
  simp

theorem results_tmp4 {fn : Func} {t u v x : Tmp} (h : fn.results = #[.tmp t, .tmp u, .tmp v, .tmp x]) (tmps : Array Value) (P : Program) (w : World) :
    (results fn tmps).run P w = .ok (.tuple #[tmps.getD t undef, tmps.getD u undef, tmps.getD v undef, tmps.getD x undef]) w := by
  simp [results, h]
theorem results_tmp5 {fn : Func} {t u v x y : Tmp} (h : fn.results = #[.tmp t, .tmp u, .tmp v, .tmp x, .tmp y]) (tmps : Array Value) (P : Program) (w : World) :
    (results fn tmps).run P w = .ok (.tuple #[tmps.getD t undef, tmps.getD u undef, tmps.getD v undef, tmps.getD x undef, tmps.getD y undef]) w := by
  simp [results, h]
set_option maxRecDepth 100000 in
set_option maxHeartbeats 1000000 in
theorem floor_any (x : Nat) (w : World) : Calls Tryz.prog 53 #[.float .f64 x] w fun e w' => ∃ b, e = .returned (.float .f64 b) ∧ (Fin x → Fin b ∧ V b = fl x * (D : Int)) ∧ (∀ s, double.read x = .infinity s → double.read b = .infinity s) ∧ ∃ m, w' = w.drewN m := by
  cases hr : double.read x with
  | number s m i =>
    have hx : Fin x := ⟨_, _, _, hr⟩
    have h1 := run_floor hx w
    have h2 := floor_V hx
    rw [hr] at h1 h2
    generalize double.write ((Datum.number s m i).integral .down) = b at *
    have H2 : Hid _ := h2
    clear h2
    go_enter Tryz.func53, Tryz.ntmps53
    go_wp2_with fail
    go_ret
    exact ⟨b, rfl, fun _ => H2.out, (fun s h => by cases h), 0, rfl⟩
  | infinity s =>
    have h1 := run_floor_inf hr w
    have h2 : double.read (double.write (.infinity s)) = .infinity s := by cases s <;> decide
    generalize double.write (.infinity s) = b at *
    have H2 : Hid _ := h2
    clear h2
    go_enter Tryz.func53, Tryz.ntmps53
    go_wp2_with fail
    go_ret
    exact ⟨b, rfl, (fun h => by obtain ⟨s, m, e, h⟩ := h; rw [hr] at h; cases h), (fun s' h => by rw [← h]; exact H2.out), 0, rfl⟩
  | nan s t =>
    obtain ⟨b, m, h1⟩ := run_floor_any x w
    go_enter Tryz.func53, Tryz.ntmps53
    go_wp2_with fail
    go_ret
    exact ⟨b, rfl, (fun h => by obtain ⟨s, m, e, h⟩ := h; rw [hr] at h; cases h), (fun s h => by cases h), m, rfl⟩

end Go.Proofs.YtfoclhpnlemmnaaGreatDoor
