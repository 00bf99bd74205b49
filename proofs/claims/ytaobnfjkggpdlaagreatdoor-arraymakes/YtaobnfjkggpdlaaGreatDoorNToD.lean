/- dayOf, ToDate, Weekday: the program's contracts. -/
import Derived.Test.YtaobnfjkggpdlaaGreatDoorNFin
namespace Go.Proofs.YtaobnfjkggpdlaaGreatDoor
open Go.RowKit Ieee

/-- A float against a whole number: how they stand. -/
theorem order_int {b c : Nat} {f n : Int} (hb : Fin b) (hf : V b = f * (D : Int)) (hc : c = FloatKind.f64.nearest n) (h1 : -9007199254740992 ≤ n) (h2 : n ≤ 9007199254740992) : double.order b c = some (compare f n) := by
  subst hc
  obtain ⟨k1, k2⟩ := ofInt_V n h1 h2
  rw [order_V hb k1, hf, k2, cmp_ints]
theorem cmp_lt (f n : Int) : (some (compare f n) == some Ordering.lt) = decide (f < n) := by
  rw [Bool.eq_iff_iff]
  simp [Int.compare_eq_lt]
theorem cmp_gt (f n : Int) : (some (compare f n) == some Ordering.gt) = decide (n < f) := by
  rw [Bool.eq_iff_iff]
  simp [Int.compare_eq_gt]
theorem cmp_eq (f n : Int) : (some (compare f n) == some Ordering.eq) = decide (f = n) := by
  rw [Bool.eq_iff_iff]
  simp

theorem results_tmp4 {fn : Func} {t u v x : Tmp} (h : fn.results = #[.tmp t, .tmp u, .tmp v, .tmp x]) (tmps : Array Value) (P : Program) (w : World) :
    (results fn tmps).run P w = .ok (.tuple #[tmps.getD t undef, tmps.getD u undef, tmps.getD v undef, tmps.getD x undef]) w := by
  simp [results, h]
theorem results_tmp5 {fn : Func} {t u v x y : Tmp} (h : fn.results = #[.tmp t, .tmp u, .tmp v, .tmp x, .tmp y]) (tmps : Array Value) (P : Program) (w : World) :
    (results fn tmps).run P w = .ok (.tuple #[tmps.getD t undef, tmps.getD u undef, tmps.getD v undef, tmps.getD x undef, tmps.getD y undef]) w := by
  simp [results, h]
end Go.Proofs.YtaobnfjkggpdlaaGreatDoor
