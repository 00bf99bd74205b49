/- Rows that come and go again: what is so of rows, cells and references. -/
import Derived.Test.YthokhnbecgkpbaaDoorHRef
import Derived.Test.YthokhnbecgkpbaaDoorHCep
namespace Go.Proofs.YthokhnbecgkpbaaDoor
open Go.RowKit

theorem chk_1 (L : List ByteArray) (sh : ByteArray) (At N : Int) (nm : ByteArray) : chkS L 1 sh At N nm = if fndB L sh = false then 4 else spnF At N 1048576 := by
  unfold chkS
  rw [if_neg (by decide), if_neg (by decide)]
  cases fndB L sh <;> rfl
theorem chk_2 (L : List ByteArray) (sh : ByteArray) (At N : Int) (nm : ByteArray) : chkS L 2 sh At N nm = if fndB L sh = false then 4 else spnF At N 1048576 := by
  unfold chkS
  rw [if_neg (by decide), if_neg (by decide)]
  cases fndB L sh <;> rfl
theorem chk_same (L : List ByteArray) (sh : ByteArray) (At N : Int) (nm : ByteArray) : chkS L 2 sh At N nm = chkS L 1 sh At N nm := by rw [chk_1, chk_2]
theorem back_row {At N lim a : Int} (hN : 1 ≤ N) (ha : a < At ∨ a + N < lim) : movB At N lim true a = true ∧ movB At N lim false (movI At N true a) = true ∧ movI At N false (movI At N true a) = a := by
  unfold movB movI
  by_cases h : a < At
  · simp [h]
  · have h2 : a + N < lim := by omega
    have h3 : ¬ a + N < At := by omega
    simp [h, h2, h3]
    omega
theorem back_lt {At N lim a : Int} (ha : a < At ∨ a + N < lim) (hl : a < lim) (h0 : 0 ≤ a) (hN : 1 ≤ N) : 0 ≤ movI At N true a ∧ movI At N true a < lim := by
  unfold movI
  split
  · omega
  · simp; omega
theorem cell_back {L : List ByteArray} {sh : ByteArray} {At N : Int} {nm : ByteArray} {s r c : Int} (h : remB L 1 sh At N nm s r c = true) :
    celV L 2 sh At N nm (ceS (fndN L sh : Int) 1 At s) (ceR (fndN L sh : Int) 1 At N s r) (ceC (fndN L sh : Int) 1 At N s c) = .tuple #[.agg #[.int .i64 s, .int .i64 r, .int .i64 c], .bool true] := by
  unfold remB at h
  simp only [Bool.and_eq_true, decide_eq_true_eq] at h
  obtain ⟨hc, hi, hb⟩ := h
  have hs := chk_span hc (by omega)
  have hin := in_iff hi
  have e1 : ceS (fndN L sh : Int) 1 At s = s := rfl
  have e3 : ceC (fndN L sh : Int) 1 At N s c = c := by unfold ceC; exact if_neg (by omega)
  rw [e1, e3]
  generalize hk : (fndN L sh : Int) = k at *
  unfold celV remB
  rw [chk_same, decide_eq_true hc, Bool.true_and, hk]
  have f1 : ∀ x, ceS k 2 At x = x := fun _ => rfl
  have f3 : ∀ x, ceC k 2 At N s x = x := fun x => by unfold ceC; exact if_neg (by omega)
  rw [f1, f3]
  by_cases hsk : s = k
  · have e2 : ceR k 1 At N s r = movI At N true r := by unfold ceR; rw [if_pos ⟨by decide, hsk⟩]; rfl
    have e4 : ceB k 1 At N s r c = movB At N 1048576 true r := by unfold ceB; rw [if_pos ⟨by decide, hsk⟩]; rfl
    rw [e4] at hb
    have hr : r < At ∨ r + N < 1048576 := by
      unfold movB at hb
      by_cases h : r < At
      · exact Or.inl h
      · rw [if_neg h] at hb; simp at hb; exact Or.inr hb
    obtain ⟨_, b2, b3⟩ := back_row hs.1 hr
    obtain ⟨l1, l2⟩ := back_lt hr hin.2.2.2.1 hin.2.2.1 hs.1
    rw [e2]
    have g2 : ceR k 2 At N s (movI At N true r) = r := by unfold ceR; rw [if_pos ⟨by decide, hsk⟩]; exact b3
    have g4 : ceB k 2 At N s (movI At N true r) c = true := by unfold ceB; rw [if_pos ⟨by decide, hsk⟩]; exact b2
    have g5 : inB L.length s (movI At N true r) c = true := decide_eq_true ⟨hin.1, hin.2.1, l1, l2, hin.2.2.2.2⟩
    rw [g2, g4, g5]
    rfl
  · have e2 : ∀ K x, ceR k K At N s x = x := fun K x => by unfold ceR; exact if_neg (fun q => hsk q.2)
    have g4 : ceB k 2 At N s r c = true := by unfold ceB; rw [if_neg (fun q => hsk q.2), if_neg (fun q => hsk q.2.2)]; rfl
    rw [e2, e2, g4, hi]
    rfl
#print axioms cell_back
/-- The rows of a reference that may be: their bounds. -/
theorem chk_ref {t u : ByteArray} {fx ar : Bool} {r1 c1 r2 c2 : Int} {x2 y2 : Bool} (h : chkF t u fx ar r1 c1 r2 c2 x2 y2 = 0) : 0 ≤ r1 ∧ r1 < 1048576 ∧ 0 ≤ r2 ∧ r2 < 1048576 := by
  unfold chkF at h
  by_cases h1 : shsB t u fx = false
  · rw [if_pos h1] at h; cases h
  rw [if_neg h1] at h
  by_cases h2 : (!(corsB ar r1 c1 r2 c2 x2 y2) || (!(empB u) && !ar)) = true
  · rw [if_pos h2] at h; cases h
  simp at h2
  have h3 := h2.1
  unfold corsB at h3
  split at h3
  · cases h3
  · simp [corB] at h3
    omega
/-- A reference whose rows are others, but may be, may be. -/
theorem chk_rows {t u : ByteArray} {fx ar : Bool} {r1 c1 r2 c2 : Int} {x2 y2 : Bool} (h : chkF t u fx ar r1 c1 r2 c2 x2 y2 = 0) (a b : Int) (ha : 0 ≤ a ∧ a < 1048576) (hb : ar = true → 0 ≤ b ∧ b < 1048576) (hn : ar = false → b = r2) : chkF t u fx ar a c1 b c2 x2 y2 = 0 := by
  have e : corsB ar a c1 b c2 x2 y2 = corsB ar r1 c1 r2 c2 x2 y2 := by
    have hr := chk_ref h
    unfold corsB
    cases ar with
    | true =>
      have hb' := hb rfl
      have k1 : corB a c1 = corB r1 c1 := by unfold corB; rw [decide_eq_true ha.1, decide_eq_true ha.2, decide_eq_true hr.1, decide_eq_true hr.2.1]
      have k2 : corB b c2 = corB r2 c2 := by unfold corB; rw [decide_eq_true hb'.1, decide_eq_true hb'.2, decide_eq_true hr.2.2.1, decide_eq_true hr.2.2.2]
      rw [k1, k2]
      simp
    | false =>
      have k1 : corB a c1 = corB r1 c1 := by unfold corB; rw [decide_eq_true ha.1, decide_eq_true ha.2, decide_eq_true hr.1, decide_eq_true hr.2.1]
      rw [hn rfl, k1]
  unfold chkF at h ⊢
  rw [e]
  exact h
theorem nw_moved {At N lim : Int} {cm ar : Bool} {a b : Int} (ha : movB At N lim cm a = true) (hb : ar = true → movB At N lim cm b = true) :
    stayB At N lim cm ar a b = true ∧ nwA At N lim cm ar a b = movI At N cm a ∧ nwB At N lim cm ar a b = if ar = true then movI At N cm b else b := by
  unfold stayB nwA nwB spaB spaF spaT fstI lstI
  cases ar with
  | true =>
    have hb' := hb rfl
    simp only [if_true]
    by_cases h : b < a
    · simp [h, ha, hb']
    · simp [h, ha, hb']
  | false => simp [ha]
end Go.Proofs.YthokhnbecgkpbaaDoor
