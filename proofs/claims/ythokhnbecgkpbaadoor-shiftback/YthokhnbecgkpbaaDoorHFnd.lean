/- Names alike, and the first one that is: both sides. -/
import Derived.Test.YthokhnbecgkpbaaDoorHMov
namespace Go.Proofs.YthokhnbecgkpbaaDoor
open Go.RowKit

theorem mv_size (a z t : Nat) (s : ByteArray) : (mvB a z t s).size = s.size := by
  show ((s.data.toList.map fun x => UInt8.ofNat (mvF a z t x.toNat)).toArray).size = s.data.size
  rw [List.size_toArray, List.length_map, Array.length_toList]
theorem list_one {A B : ByteArray} : A.toList = B.toList ↔ A = B := by
  rw [ByteArray.toList_eq, ByteArray.toList_eq]
  exact ⟨fun h => ByteArray.ext (Array.toList_inj.1 h), fun h => by rw [h]⟩
/-- Are two names held to be one? -/
def alkF (a b : ByteArray) : Bool := decide (mvB 97 122 65 a = mvB 97 122 65 b)
theorem alk_size {a b : ByteArray} (h : ¬ a.size = b.size) : alkF a b = false := by
  unfold alkF
  refine decide_eq_false (fun e => h ?_)
  have := congrArg ByteArray.size e
  rwa [mv_size, mv_size] at this
/-- The number of the first one alike; how many there are, if none is. -/
def fndI : List ByteArray → ByteArray → Nat
  | [], _ => 0
  | a :: r, n => if alkF a n = true then 0 else fndI r n + 1
theorem fnd_le : ∀ (L : List ByteArray) (n : ByteArray), fndI L n ≤ L.length
  | [], _ => Nat.le_refl _
  | a :: r, n => by
    rw [fndI]
    have := fnd_le r n
    split
    · omega
    · simp; omega
def fndB (L : List ByteArray) (n : ByteArray) : Bool := decide (fndI L n < L.length)
def fndN (L : List ByteArray) (n : ByteArray) : Nat := if fndI L n < L.length then fndI L n else 0
theorem fnd_step (L : List ByteArray) (n : ByteArray) (p : Nat) (h : p < L.length) : fndI (L.drop p) n = if alkF L[p] n = true then 0 else fndI (L.drop (p + 1)) n + 1 := by
  rw [List.drop_eq_getElem_cons h, fndI]
theorem fnd_end (L : List ByteArray) (n : ByteArray) (p : Nat) (h : L.length ≤ p) : fndI (L.drop p) n = 0 := by
  rw [List.drop_eq_nil_of_le h, fndI]
/-- Names lie in a row. -/
def SsAt (w : World) (ao : Option Addr) (L : List ByteArray) : Prop :=
  L = [] ∨ ∃ b off, ao = some ⟨b, off, none⟩ ∧ b < w.heap.size ∧ ∀ k (h : k < L.length), w.cell? ⟨b, off + k, none⟩ = some (.string L[k])
theorem SsAt.keep {w w' : World} {ao : Option Addr} {L : List ByteArray} (h : SsAt w ao L) (hF : Fr noB w w') : SsAt w' ao L := by
  rcases h with h | ⟨b, off, h1, h2, h3⟩
  · exact Or.inl h
  · exact Or.inr ⟨b, off, h1, Nat.lt_of_lt_of_le h2 hF.size, fun k hk => (hF.cell (a := ⟨b, off + k, none⟩) h2 id).trans (h3 k hk)⟩
theorem SsAt.get {w : World} {ao : Option Addr} {L : List ByteArray} (h : SsAt w ao L) (k : Nat) (hk : k < L.length) : ∃ b off, ao = some ⟨b, off, none⟩ ∧ b < w.heap.size ∧ w.cell? ⟨b, off + k, none⟩ = some (.string L[k]) := by
  rcases h with rfl | ⟨b, off, h1, h2, h3⟩
  · simp at hk
  · exact ⟨b, off, h1, h2, h3 k hk⟩
set_option maxRecDepth 100000 in
theorem alike_any (a b : ByteArray) (w : World) : Calls Tryd.prog 15 #[.string a, .string b] w fun e w' => e = .returned (.bool (alkF a b)) ∧ Fr noB w w' := by
  by_cases h : a.size = b.size
  case neg =>
    rw [alk_size h]
    have h2 : ¬ (a.size : Int) = (b.size : Int) := by omega
    clear h
    go_enter Tryd.func15, Tryd.ntmps15
    go_wp2_with fail
    go_ret
    exact ⟨rfl, Fr.refl _ _⟩
  case pos =>
    have h2 : (a.size : Int) = (b.size : Int) := by omega
    have HA := upper_any a
    have HB := upper_any b
    unfold alkF
    clear h
    generalize mvB 97 122 65 a = A at *
    generalize mvB 97 122 65 b = B at *
    go_enter Tryd.func15, Tryd.ntmps15
    go_wp2_with (first
      | (go_at_call 34; (with_reducible refine (HA _).mono ?_); rintro e w1 ⟨rfl, hF1⟩)
      | (go_at_call 34; (with_reducible refine (HB _).mono ?_); rintro e w2 ⟨rfl, hF2⟩))
    go_ret
    exact ⟨ret_bool (by rw [Bool.eq_iff_iff]; simp [list_one]), hF1.trans hF2⟩
set_option maxRecDepth 100000 in
theorem ralike_any (a b : ByteArray) (w : World) (ha : a.size ≤ 140737488355328) (hb : b.size ≤ 140737488355328) : Calls Tryd.prog 16 #[.string a, .string b] w fun e w' => e = .returned (.bool (alkF a b)) ∧ Fr noB w w' := by
  have HA := fun w => rupper_any a w ha
  have HB := fun w => rupper_any b w hb
  unfold alkF
  clear ha hb
  generalize mvB 97 122 65 a = A at *
  generalize mvB 97 122 65 b = B at *
  go_enter Tryd.func16, Tryd.ntmps16
  go_wp2_with (first
    | (go_at_call 35; (with_reducible refine (HA _).mono ?_); rintro e w1 ⟨rfl, hF1⟩)
    | (go_at_call 35; (with_reducible refine (HB _).mono ?_); rintro e w2 ⟨rfl, hF2⟩))
  go_ret
  exact ⟨ret_bool (by rw [Bool.eq_iff_iff]; simp [list_one]), hF1.trans hF2⟩
#print axioms alike_any
set_option maxRecDepth 100000 in
set_option maxHeartbeats 1000000 in
theorem find_any (ao : Option Addr) (cap : Nat) (L : List ByteArray) (n : ByteArray) (w : World) (h : SsAt w ao L) (hl : L.length ≤ 140737488355328) :
    Calls Tryd.prog 9 #[.slice ao L.length cap, .string n] w fun e w' => e = .returned (.tuple #[.int .i64 (fndN L n : Int), .bool (fndB L n)]) ∧ Fr noB w w' := by
  have HA := fun a => alike_any a n
  have HS : Hid (SsAt w ao L) := h
  clear h
  go_enter Tryd.func9, Tryd.ntmps9
  go_wp2_with fail
  go_loopw [10] (fun iv wr => ∃ p : Nat, iv = .int .i64 (p : Int) ∧ p ≤ L.length ∧ Fr noB w wr ∧ Hid (fndI (L.drop p) n + p = fndI L n)) (fun iv _ => L.length - (intOf iv).toNat)
  case atStart => exact ⟨0, rfl, Nat.zero_le _, Fr.refl _ _, by show fndI (L.drop 0) n + 0 = _; rw [List.drop_zero]; rfl⟩
  case round =>
    obtain ⟨p, rfl, hp, hF, HC⟩ := hrel
    by_cases hlt : p < L.length
    · obtain ⟨b, off, rfl, hb, hc⟩ := (HS.out.keep hF).get p hlt
      have hltI : (p : Int) < (L.length : Int) := by omega
      have hst := fnd_step L n p hlt
      have H := HA L[p]
      obtain ⟨a, ha⟩ : ∃ a, L[p] = a := ⟨_, rfl⟩
      rw [ha] at hc hst H
      have HL : Hid (p < L.length) := hlt
      cases hk : alkF a n with
      | true =>
        have HX : Hid (fndN L n = p ∧ fndB L n = true) := by
          rw [if_pos hk] at hst
          have e := HC.out
          unfold fndN fndB
          rw [hst] at e
          rw [← e, if_pos (by omega), decide_eq_true (by omega)]
          exact ⟨by omega, rfl⟩
        rw [hk] at H
        clear HC hst ha hk HS hlt
        generalize L.length = l at *
        go_wp2_with (go_at_call 15; refine (H _).mono ?_; rintro e w1 ⟨rfl, hF1⟩)
        go_ret2
        rw [HX.out.1, HX.out.2]
        exact ⟨rfl, hF.trans hF1⟩
      | false =>
        have HX : Hid (fndI (L.drop (p + 1)) n + (p + 1) = fndI L n) := by
          rw [if_neg (by rw [hk]; simp)] at hst
          have e := HC.out
          show _ = _
          omega
        rw [hk] at H
        clear HC hst ha hk
        go_wp2_with (go_at_call 15; refine (H _).mono ?_; rintro e w1 ⟨rfl, hF1⟩)
        go_roundw
        case rel => exact ⟨p + 1, by go_num, HL.out, hF.trans hF1, HX⟩
        case measure => simp [intOf]; omega
    · have HX : Hid (fndN L n = 0 ∧ fndB L n = false) := by
        have e := HC.out
        rw [fnd_end L n p (by omega)] at e
        unfold fndN fndB
        rw [if_neg (by omega), decide_eq_false (by omega)]
        exact ⟨rfl, rfl⟩
      have hltI : ¬ (p : Int) < (L.length : Int) := by omega
      clear HC
      go_wp2_with fail
      go_ret2
      rw [HX.out.1, HX.out.2]
      exact ⟨rfl, hF⟩
set_option maxRecDepth 100000 in
set_option maxHeartbeats 1000000 in
theorem rfind_any (ao : Option Addr) (cap : Nat) (L : List ByteArray) (n : ByteArray) (w : World) (h : SsAt w ao L) (hl : L.length ≤ 140737488355328) (hn : n.size ≤ 140737488355328) (hL : ∀ x ∈ L, x.size ≤ 140737488355328) :
    Calls Tryd.prog 10 #[.slice ao L.length cap, .string n] w fun e w' => e = .returned (.tuple #[.int .i64 (fndN L n : Int), .bool (fndB L n)]) ∧ Fr noB w w' := by
  have HA := fun a ha w => ralike_any a n w ha hn
  have HS : Hid (SsAt w ao L) := h
  clear h
  go_enter Tryd.func10, Tryd.ntmps10
  go_wp2_with fail
  go_loopw [6] (fun iv wr => ∃ p : Nat, iv = .int .i64 (p : Int) ∧ p ≤ L.length ∧ Fr noB w wr ∧ Hid (fndI (L.drop p) n + p = fndI L n)) (fun iv _ => L.length - (intOf iv).toNat)
  case atStart => exact ⟨0, rfl, Nat.zero_le _, Fr.refl _ _, by show fndI (L.drop 0) n + 0 = _; rw [List.drop_zero]; rfl⟩
  case round =>
    obtain ⟨p, rfl, hp, hF, HC⟩ := hrel
    by_cases hlt : p < L.length
    · obtain ⟨b, off, rfl, hb, hc⟩ := (HS.out.keep hF).get p hlt
      have hltI : (p : Int) < (L.length : Int) := by omega
      have hst := fnd_step L n p hlt
      have H := HA L[p] (hL _ (List.getElem_mem hlt))
      obtain ⟨a, ha⟩ : ∃ a, L[p] = a := ⟨_, rfl⟩
      rw [ha] at hc hst H
      have HL : Hid (p < L.length) := hlt
      cases hk : alkF a n with
      | true =>
        have HX : Hid (fndN L n = p ∧ fndB L n = true) := by
          rw [if_pos hk] at hst
          have e := HC.out
          unfold fndN fndB
          rw [hst] at e
          rw [← e, if_pos (by omega), decide_eq_true (by omega)]
          exact ⟨by omega, rfl⟩
        rw [hk] at H
        clear HC hst ha hk HS hlt
        generalize L.length = l at *
        go_wp2_with (go_at_call 16; refine (H _).mono ?_; rintro e w1 ⟨rfl, hF1⟩)
        go_ret2
        rw [HX.out.1, HX.out.2]
        exact ⟨rfl, hF.trans hF1⟩
      | false =>
        have HX : Hid (fndI (L.drop (p + 1)) n + (p + 1) = fndI L n) := by
          rw [if_neg (by rw [hk]; simp)] at hst
          have e := HC.out
          show _ = _
          omega
        rw [hk] at H
        clear HC hst ha hk
        go_wp2_with (go_at_call 16; refine (H _).mono ?_; rintro e w1 ⟨rfl, hF1⟩)
        go_roundw
        case rel => exact ⟨p + 1, by go_num, HL.out, hF.trans hF1, HX⟩
        case measure => simp [intOf]; omega
    · have HX : Hid (fndN L n = 0 ∧ fndB L n = false) := by
        have e := HC.out
        rw [fnd_end L n p (by omega)] at e
        unfold fndN fndB
        rw [if_neg (by omega), decide_eq_false (by omega)]
        exact ⟨rfl, rfl⟩
      have hltI : ¬ (p : Int) < (L.length : Int) := by omega
      clear HC
      go_wp2_with fail
      go_ret2
      rw [HX.out.1, HX.out.2]
      exact ⟨rfl, hF⟩
#print axioms find_any
#print axioms rfind_any
end Go.Proofs.YthokhnbecgkpbaaDoor
