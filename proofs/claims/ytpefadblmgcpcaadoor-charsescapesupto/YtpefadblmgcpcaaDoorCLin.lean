/- Lines: the program's contract and the document's. -/
import Derived.Test.YtpefadblmgcpcaaDoorCRew
import Derived.Test.YtpefadblmgcpcaaDoorCNmR
import Derived.Laws.IdiomStrings
namespace Go.Proofs.YtpefadblmgcpcaaDoor
open Go.RowKit Go.Shelf

/-- What stands for the bytes from i on. -/
def fromB (s : ByteArray) (g : Nat → List UInt8) (i : Nat) : List UInt8 := (List.range (s.size - i)).flatMap fun k => g (i + k)
theorem fromB_step (s : ByteArray) (g : Nat → List UInt8) (i : Nat) (h : i < s.size) : fromB s g i = g i ++ fromB s g (i + 1) := by
  unfold fromB
  obtain ⟨m, hm⟩ : ∃ m, s.size - i = m + 1 := ⟨s.size - i - 1, by omega⟩
  rw [hm, show s.size - (i + 1) = m by omega, List.range_succ_eq_map, List.flatMap_cons, List.flatMap_map]
  congr 1
  congr 1
  funext k
  rw [show i + 1 + k = i + (k + 1) by omega]
theorem fromB_end (s : ByteArray) (g : Nat → List UInt8) (i : Nat) (h : ¬ i < s.size) : fromB s g i = [] := by
  unfold fromB
  rw [show s.size - i = 0 by omega]
  rfl
theorem cutB_same (s : ByteArray) (a : Nat) : cutB s a a = [] := by
  unfold cutB
  apply List.eq_nil_of_length_eq_zero
  simp
theorem cutB_more (s : ByteArray) (a b : Nat) (h : a ≤ b) (hb : b < s.size) : cutB s a (b + 1) = cutB s a b ++ [s.get! b] := by
  unfold cutB
  rw [ByteArray.data_extract, ByteArray.data_extract, Array.toList_extract, Array.toList_extract, List.extract_eq_take_drop, List.extract_eq_take_drop, show b + 1 - a = (b - a) + 1 by omega, List.take_add_one]
  congr 1
  rw [List.getElem?_drop, show a + (b - a) = b by omega, get_list s b hb]
  rfl
theorem cutB_run (s : ByteArray) (g : Nat → List UInt8) (a : Nat) : ∀ (n b : Nat), a ≤ b → b + n ≤ s.size → (∀ j, b ≤ j → j < b + n → g j = [s.get! j]) → cutB s a (b + n) ++ fromB s g (b + n) = cutB s a b ++ fromB s g b := by
  intro n
  induction n with
  | zero => intro b _ _ _; rfl
  | succ n ih =>
    intro b h1 h2 h3
    rw [show b + (n + 1) = b + 1 + n by omega, ih (b + 1) (by omega) (by omega) (fun j hj1 hj2 => h3 j (by omega) (by omega)), cutB_more s a b h1 (by omega), fromB_step s g b (by omega), h3 b (Nat.le_refl _) (by omega)]
    simp
/-- Character by character is byte by byte. -/
theorem rw_bytes (s : ByteArray) (o : Nat → Nat → Option ByteArray) (g : Nat → List UInt8)
    (h : ∀ p, p < s.size → (o p (Utf8.decode s p).1 = none → ∀ j, p ≤ j → j < p + (Utf8.decode s p).2 → g j = [s.get! j]) ∧ (∀ t, o p (Utf8.decode s p).1 = some t → (Utf8.decode s p).2 = 1 ∧ g p = t.data.toList)) :
    ∀ (m pos d : Nat) (acc : List UInt8), s.size - pos ≤ m → pos ≤ s.size → d ≤ pos → rwL s o (runs s pos) d acc = acc ++ (cutB s d pos ++ fromB s g pos) := by
  intro m
  induction m with
  | zero =>
    intro pos d acc h1 h2 h3
    have : pos = s.size := by omega
    subst this
    rw [runs_end s _ (by omega), rwL, fromB_end s g _ (by omega), List.append_nil]
  | succ m ih =>
    intro pos d acc h1 h2 h3
    by_cases hp : pos < s.size
    · obtain ⟨ha, hb⟩ := h pos hp
      have hwd := width_pos s pos hp
      have hwf := width_fits s pos hp
      rw [runs_step s pos hp, rwL]
      simp only
      cases ho : o pos (Utf8.decode s pos).1 with
      | none =>
        simp only
        rw [ih _ d acc (by omega) hwf (by omega), cutB_run s g d _ pos h3 hwf (ha ho)]
      | some t =>
        simp only
        obtain ⟨e1, e2⟩ := hb t ho
        rw [e1, ih (pos + 1) (pos + 1) _ (by omega) (by omega) (Nat.le_refl _), cutB_same, fromB_step s g pos hp, e2]
        simp
    · have : pos = s.size := by omega
      subst this
      rw [runs_end s _ hp, rwL, fromB_end s g _ hp, List.append_nil]
theorem rwF_bytes (s : ByteArray) (o : Nat → Nat → Option ByteArray) (g : Nat → List UInt8)
    (h : ∀ p, p < s.size → (o p (Utf8.decode s p).1 = none → ∀ j, p ≤ j → j < p + (Utf8.decode s p).2 → g j = [s.get! j]) ∧ (∀ t, o p (Utf8.decode s p).1 = some t → (Utf8.decode s p).2 = 1 ∧ g p = t.data.toList)) : rwF s o = fromB s g 0 := by
  unfold rwF
  rw [rw_bytes s o g h s.size 0 0 [] (by omega) (Nat.zero_le _) (Nat.le_refl _), cutB_same]
  rfl

/-- Does a line end of two bytes stand there? -/
def crlf (s : ByteArray) (p : Nat) : Bool := decide (2 ≤ (s.extract p s.size).size) && (((s.extract p s.size).extract 0 2).toList == [13, 10])
def oLin (s : ByteArray) (p r : Nat) : Option ByteArray := if r = 13 then (if crlf s p then some ⟨#[]⟩ else some ⟨#[10]⟩) else none
/-- What stands for a byte. -/
def gLin (s : ByteArray) (j : Nat) : List UInt8 := if (s.get! j).toNat = 13 then (if j + 1 < s.size ∧ (s.get! (j + 1)).toNat = 10 then [] else [10]) else [s.get! j]
set_option maxRecDepth 100000 in
theorem hasPrefix_nl (s : ByteArray) (w : World) : Calls Tryd.prog 52 #[.string s, .string ⟨#[13, 10]⟩] w fun e w' => e = .returned (.bool (decide (2 ≤ s.size) && ((s.extract 0 2).toList == [13, 10]))) ∧ w' = w := by
  go_enter Tryd.func52, Tryd.ntmps52
  go_wp2
  all_goals
    go_ret
    exact ⟨ret_bool (by rw [Bool.eq_iff_iff]; simp; first | done | omega | (intros; omega)), rfl⟩
theorem crlf_at (s : ByteArray) (p : Nat) (hp : p < s.size) (h13 : (s.get! p).toNat = 13) : crlf s p = decide (p + 1 < s.size ∧ (s.get! (p + 1)).toNat = 10) := by
  have e0 : ((s.extract p s.size).extract 0 2).toList = (s.data.toList.drop p).take 2 := by
    rw [ByteArray.toList_eq]
    simp [ByteArray.data_extract]
    omega
  have ez : (s.extract p s.size).size = s.size - p := by simp
  unfold crlf
  rw [e0, ez, Bool.eq_iff_iff]
  simp only [Bool.and_eq_true, decide_eq_true_eq, beq_iff_eq]
  by_cases h : p + 1 < s.size
  · have g0 := get_list s p (by omega)
    have g1 := get_list s (p + 1) (by omega)
    have hl : (s.data.toList.drop p).take 2 = [s.get! p, s.get! (p + 1)] := by
      apply List.ext_getElem?
      intro i
      rw [List.getElem?_take]
      by_cases hi : i < 2
      · rw [if_pos hi, List.getElem?_drop]
        match i, hi with
        | 0, _ => exact g0
        | 1, _ => exact g1
      · rw [if_neg hi, List.getElem?_eq_none (by simp; omega)]
    rw [hl]
    constructor
    · rintro ⟨_, e⟩
      injection e with e1 e; injection e with e2 e
      exact ⟨h, by rw [e2]; rfl⟩
    · rintro ⟨_, e2⟩
      exact ⟨by omega, by rw [show s.get! p = 13 from UInt8.toNat_inj.1 h13, show s.get! (p + 1) = 10 from UInt8.toNat_inj.1 e2]⟩
  · constructor
    · rintro ⟨h1, _⟩; omega
    · rintro ⟨h1, _⟩; exact absurd h1 h
theorem lin_ok (s : ByteArray) (p : Nat) (hp : p < s.size) : (oLin s p (Utf8.decode s p).1 = none → ∀ j, p ≤ j → j < p + (Utf8.decode s p).2 → gLin s j = [s.get! j]) ∧ (∀ t, oLin s p (Utf8.decode s p).1 = some t → (Utf8.decode s p).2 = 1 ∧ gLin s p = t.data.toList) := by
  have hlow := dec_low s p
  have hcont := cont_high s p
  constructor
  · intro ho j h1 h2
    have hr : (Utf8.decode s p).1 ≠ 13 := by
      intro e
      rw [e] at ho
      unfold oLin at ho
      rw [if_pos rfl] at ho
      split at ho <;> cases ho
    unfold gLin
    rw [if_neg]
    intro e
    by_cases ej : j = p
    · subst ej
      rw [dec_ascii s j (by omega)] at hr
      exact hr e
    · have := hcont j (by omega) h2
      omega
  · intro t ho
    unfold oLin at ho
    by_cases hr : (Utf8.decode s p).1 = 13
    · rw [if_pos hr] at ho
      obtain ⟨h1, h2, h3⟩ := hlow (by omega)
      have h13 : (s.get! p).toNat = 13 := by rw [← h2]; exact hr
      refine ⟨h3, ?_⟩
      rw [crlf_at s p hp h13] at ho
      unfold gLin
      rw [if_pos h13]
      by_cases hc : p + 1 < s.size ∧ (s.get! (p + 1)).toNat = 10
      · rw [if_pos hc]
        rw [decide_eq_true hc, if_pos rfl] at ho
        cases ho
        rfl
      · rw [if_neg hc]
        rw [decide_eq_false hc] at ho
        cases ho
        rfl
    · rw [if_neg hr] at ho; cases ho
set_option maxRecDepth 100000 in
set_option maxHeartbeats 1000000 in
theorem linesC_any (s : ByteArray) (b p r : Nat) (w : World) (hp : p < s.size) (hc : w.cell? ⟨b, 0, none⟩ = some (.string s)) :
    Calls Tryd.prog 51 #[.int .i64 (p : Int), .int .i32 (r : Int), .pointer (some ⟨b, 0, none⟩)] w fun e w' => e = .returned (.tuple #[.string (otT (oLin s p r)), .bool (oLin s p r).isSome]) ∧ Fr noB w w' := by
  have HH := hasPrefix_nl (s.extract p s.size)
  by_cases hr : r = 13
  · subst hr
    have ho : oLin s p 13 = if crlf s p then some ⟨#[]⟩ else some ⟨#[10]⟩ := by unfold oLin; rw [if_pos rfl]
    rw [show (decide (2 ≤ (s.extract p s.size).size) && (((s.extract p s.size).extract 0 2).toList == [13, 10])) = crlf s p from rfl] at HH
    rw [ho]
    clear ho
    cases hcr : crlf s p with
    | true =>
      rw [hcr] at HH
      clear hcr
      go_enter Tryd.func51, Tryd.ntmps51
      go_wp2_with (go_at_call 52; with_reducible refine (HH _).mono ?_; rintro e w1 ⟨rfl, rfl⟩)
      go_ret2
      exact ⟨rfl, Fr.refl _ _⟩
    | false =>
      rw [hcr] at HH
      clear hcr
      go_enter Tryd.func51, Tryd.ntmps51
      go_wp2_with (go_at_call 52; with_reducible refine (HH _).mono ?_; rintro e w1 ⟨rfl, rfl⟩)
      go_ret2
      exact ⟨rfl, Fr.refl _ _⟩
  · have ho : oLin s p r = none := by unfold oLin; rw [if_neg hr]
    rw [ho]
    have hr' : ¬ (r : Int) = 13 := by omega
    clear ho HH
    go_enter Tryd.func51, Tryd.ntmps51
    go_wp2
    go_ret2
    exact ⟨rfl, Fr.refl _ _⟩
set_option maxRecDepth 100000 in
set_option maxHeartbeats 1000000 in
theorem lines_any (s : ByteArray) (w : World) (hs : s.size ≤ 1048576) : Calls Tryd.prog 19 #[.string s] w fun e w' => e = .returned (.string ⟨(fromB s (gLin s) 0).toArray⟩) ∧ Fr noB w w' := by
  have hbx : (w.alloc (.cells #[.string s] 9 (0, 0))).cell? ⟨w.heap.size, 0, none⟩ = some (.string s) := cellOf (heap_alloc_new _ _) rfl
  have HR := rewritten_lines s (.pointer (some ⟨w.heap.size, 0, none⟩)) (oLin s) (w.alloc (.cells #[.string s] 9 (0, 0))) hs (by
      intro p r t ht
      unfold oLin at ht
      split at ht
      · split at ht <;> (cases ht; decide)
      · cases ht)
    (fun W p r hF hp => linesC_any s w.heap.size p r W hp ((hF.cell (lt_of_cell hbx) id).trans hbx))
  rw [rwF_bytes s (oLin s) (gLin s) (lin_ok s)] at HR
  clear hbx
  go_enter Tryd.func19, Tryd.ntmps19
  go_wp2_with (go_at_call 42; with_reducible refine HR.mono ?_; rintro e w1 ⟨rfl, hF⟩)
  go_ret
  exact ⟨rfl, ((Fr.refl noB w).alloc _).trans hF⟩
#print axioms lines_any
end Go.Proofs.YtpefadblmgcpcaaDoor
