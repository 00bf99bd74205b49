/- The characters of a text, one by one, and which of them XML has. No Go text here. -/
import Derived.Laws.RangeAny
import Derived.Lib.DecodeN
namespace Go.Proofs.YthokhnbecgkpbaaDoor

/-- From a to b. -/
def btw (r a b : Int) : Bool := decide (a ≤ r) && decide (r ≤ b)
def charF (r : Int) : Bool := r == 9 || r == 10 || r == 13 || btw r 32 55295 || btw r 57344 65533 || btw r 65536 1114111
def spaceF (r : Int) : Bool := r == 32 || r == 9 || r == 13 || r == 10
def startF (r : Int) : Bool :=
  btw r 65 90 || r == 95 || btw r 97 122 || btw r 192 214 || btw r 216 246 || btw r 248 767 || btw r 880 893 || btw r 895 8191 || r == 8204 || r == 8205 || btw r 8304 8591 || btw r 11264 12271 ||
    btw r 12289 55295 || btw r 63744 64975 || btw r 65008 65533 || btw r 65536 983039
def nmcF (r : Int) : Bool := startF r || r == 45 || r == 46 || btw r 48 57 || r == 183 || btw r 768 879 || r == 8255 || r == 8256

theorem width_pos (s : ByteArray) (p : Nat) (h : p < s.size) : 1 ≤ (Utf8.decode s p).2 := by
  by_cases ha : (s[p]'h).toNat < 128
  · rw [decode_ascii s p h ha]
    exact Nat.le_refl _
  · exact (decode_high s p h (by omega)).2
set_option maxRecDepth 100000 in
theorem width_fits (s : ByteArray) (p : Nat) (h : p < s.size) : p + (Utf8.decode s p).2 ≤ s.size := by
  rw [Lib.decode_at]
  unfold Lib.decodeN
  repeat' split
  all_goals simp only
  all_goals omega
set_option maxRecDepth 100000 in
theorem width_4 (s : ByteArray) (p : Nat) : (Utf8.decode s p).2 ≤ 4 := by
  rw [Lib.decode_at]
  unfold Lib.decodeN
  repeat' split
  all_goals simp only
  all_goals omega

/-- The characters from p on: place, number, width. -/
def runsGo (s : ByteArray) : Nat → Nat → List (Nat × Nat × Nat)
  | 0, _ => []
  | f + 1, p => if p < s.size then (p, (Utf8.decode s p).1, (Utf8.decode s p).2) :: runsGo s f (p + (Utf8.decode s p).2) else []
def runs (s : ByteArray) (p : Nat) : List (Nat × Nat × Nat) := runsGo s (s.size - p) p
theorem runsGo_end (s : ByteArray) (f p : Nat) (h : ¬ p < s.size) : runsGo s f p = [] := by
  cases f with
  | zero => rfl
  | succ f => simp [runsGo, h]
theorem runsGo_more (s : ByteArray) (f : Nat) : ∀ g p, s.size ≤ p + f → s.size ≤ p + g → runsGo s f p = runsGo s g p := by
  induction f with
  | zero => intro g p h1 h2; rw [runsGo_end s g p (by omega)]; rfl
  | succ f ih =>
    intro g p h1 h2
    by_cases hp : p < s.size
    · have hw := width_pos s p hp
      cases g with
      | zero => omega
      | succ g =>
        simp only [runsGo, hp, if_true]
        rw [ih g _ (by omega) (by omega)]
    · rw [runsGo_end s _ p hp, runsGo_end s _ p hp]
theorem runs_end (s : ByteArray) (p : Nat) (h : ¬ p < s.size) : runs s p = [] := runsGo_end s _ p h
theorem runs_step (s : ByteArray) (p : Nat) (h : p < s.size) : runs s p = (p, (Utf8.decode s p).1, (Utf8.decode s p).2) :: runs s (p + (Utf8.decode s p).2) := by
  have hw := width_pos s p h
  unfold runs
  obtain ⟨f, hf⟩ : ∃ f, s.size - p = f + 1 := ⟨s.size - p - 1, by omega⟩
  rw [hf]
  simp only [runsGo, h, if_true]
  rw [runsGo_more s f (s.size - (p + (Utf8.decode s p).2)) _ (by omega) (by omega)]
theorem runs_ge (s : ByteArray) : ∀ (n p : Nat), s.size - p ≤ n → ∀ x ∈ runs s p, p ≤ x.1 ∧ x.1 < s.size ∧ 1 ≤ x.2.2 ∧ x.1 + x.2.2 ≤ s.size := by
  intro n
  induction n with
  | zero => intro p h x hx; rw [runs_end s p (by omega)] at hx; cases hx
  | succ n ih =>
    intro p h x hx
    by_cases hp : p < s.size
    · have hw := width_pos s p hp
      have hf := width_fits s p hp
      rw [runs_step s p hp] at hx
      rcases List.mem_cons.1 hx with rfl | hx
      · exact ⟨Nat.le_refl _, hp, hw, hf⟩
      · obtain ⟨a, b, c⟩ := ih (p + (Utf8.decode s p).2) (by omega) x hx
        exact ⟨by omega, b, c⟩
    · rw [runs_end s p hp] at hx; cases hx
theorem runs_len (s : ByteArray) : ∀ (n p : Nat), s.size - p ≤ n → (runs s p).length ≤ s.size - p := by
  intro n
  induction n with
  | zero => intro p h; rw [runs_end s p (by omega)]; simp
  | succ n ih =>
    intro p h
    by_cases hp : p < s.size
    · have hw := width_pos s p hp
      have hf := width_fits s p hp
      rw [runs_step s p hp]
      have := ih (p + (Utf8.decode s p).2) (by omega)
      simp only [List.length_cons]
      omega
    · rw [runs_end s p hp]; simp

/-- Is a character of XML, and written as one? -/
def okR (r n : Nat) : Bool := charF r && !(r == 65533 && n == 1)
/-- The place of the first thing that is none. -/
def validL : List (Nat × Nat × Nat) → Nat × Bool
  | [] => (0, true)
  | x :: t => if okR x.2.1 x.2.2 then validL t else (x.1, false)
def validF (s : ByteArray) : Nat × Bool := validL (runs s 0)
/-- Is all of it a name's? -/
def nameL (l : List (Nat × Nat × Nat)) : Bool := l.all fun x => (x.1 != 0 || startF x.2.1) && nmcF x.2.1
def nameF (s : ByteArray) : Bool := (validF s).2 && nameL (runs s 0) && s.size != 0

/-- A byte that is no UTF-8 is read as FFFD, of one byte; FFFD itself has three. -/
theorem fffd (s : ByteArray) (p : Nat) (h : p < s.size) (hr : (Utf8.decode s p).1 = 65533) :
    ((Utf8.decode s p).2 = 1 ∧ ¬ (p + 2 < s.size ∧ (s.get! p).toNat = 239 ∧ (s.get! (p + 1)).toNat = 191 ∧ (s.get! (p + 2)).toNat = 189)) ∨
    ((Utf8.decode s p).2 = 3 ∧ (p + 2 < s.size ∧ (s.get! p).toNat = 239 ∧ (s.get! (p + 1)).toNat = 191 ∧ (s.get! (p + 2)).toNat = 189)) := by
  have h0 : (s.get! p).toNat < 256 := (s.get! p).toNat_lt
  have h1 : (s.get! (p + 1)).toNat < 256 := (s.get! (p + 1)).toNat_lt
  have h2 : (s.get! (p + 2)).toNat < 256 := (s.get! (p + 2)).toNat_lt
  have h3 : (s.get! (p + 3)).toNat < 256 := (s.get! (p + 3)).toNat_lt
  rw [Lib.decode_at] at hr ⊢
  generalize (s.get! p).toNat = b0 at *
  generalize (s.get! (p + 1)).toNat = b1 at *
  generalize (s.get! (p + 2)).toNat = b2 at *
  generalize (s.get! (p + 3)).toNat = b3 at *
  unfold Lib.decodeN at hr ⊢
  split at hr
  · simp only at hr; omega
  · rename_i c1
    rw [if_neg c1]
    split at hr
    · rename_i c2
      rw [if_pos c2]
      split at hr
      · simp only at hr; omega
      · rename_i c3; rw [if_neg c3]; left; refine ⟨rfl, ?_⟩; omega
    · rename_i c2
      rw [if_neg c2]
      split at hr
      · rename_i c4
        rw [if_pos c4]
        split at hr
        · rename_i c5; rw [if_pos c5]; simp only at hr; right; refine ⟨rfl, ?_⟩; omega
        · rename_i c5; rw [if_neg c5]; left; refine ⟨rfl, ?_⟩; omega
      · rename_i c4
        rw [if_neg c4]
        split at hr
        · rename_i c6
          rw [if_pos c6]
          split at hr
          · rename_i c7; simp only at hr; omega
          · rename_i c7; rw [if_neg c7]; left; refine ⟨rfl, ?_⟩; omega
        · rename_i c6; rw [if_neg c6]; left; refine ⟨rfl, ?_⟩; omega
#print axioms fffd
end Go.Proofs.YthokhnbecgkpbaaDoor
