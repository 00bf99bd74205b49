/- FormatFloat with the format e and the fewest digits: its contract. -/
import Derived.Test.YtdmjbhbiehjelaaGreatDoorK12
import Derived.Laws.IdiomStrings
namespace Go.Proofs.YtdmjbhbiehjelaaGreatDoor
open Go.RowKit Ieee Go.Shelf

/-- Bytes as a text. -/
def baOf (L : List Nat) : ByteArray := ⟨(L.map UInt8.ofNat).toArray⟩
/-- What has been gathered, turned into a text. -/
theorem Own.text {w0 w : World} {base : Nat} {v0 v : Value} {X : List Nat} (h : Own w0 base v0 X w v) (hX : ∀ x ∈ X, x < 256) (hl : X ≠ []) : (convert 53 9 v).run Tryz.prog w = .ok (.string (baOf X)) w := by
  rcases h.row.2 with ⟨_, h0⟩ | ⟨g, cap, cur, hv, hg, hrow, _, _, _, hct⟩
  · exact absurd (List.eq_nil_of_length_eq_zero h0) hl
  · rw [hv]
    have hc := run_convert_bytes_back (P := Tryz.prog) w 53 9 5 ⟨g, 0, none⟩ cap (X.map UInt8.ofNat) Tryz.underlying53 Tryz.underlying5 Tryz.underlying9 (by
      intro j hj
      rw [List.length_map] at hj
      rw [add_none, Nat.zero_add]
      refine cellOf hrow ?_
      rw [Nat.mul_one] at hct
      have h1 : (cur.toList.take X.length)[j]? = (byteVals X)[j]? := by rw [hct]
      rw [List.getElem?_take, if_pos hj, byteVals_get X j hj, Array.getElem?_toList] at h1
      rw [h1, List.getElem_map, UInt8.toNat_ofNat', Nat.mod_eq_of_lt (hX _ (List.getElem_mem hj))])
    rw [List.length_map] at hc
    exact hc
theorem expT_small (x : Int) (h1 : -999 ≤ x) (h2 : x ≤ 999) : ∀ y ∈ expT x, y < 256 := by
  intro y hy
  unfold expT at hy
  rcases List.mem_cons.1 hy with h | h
  · split at h <;> omega
  · split at h
    · simp at h; omega
    · split at h
      · simp at h; omega
      · simp at h; omega
theorem eText_small {Ds : List Nat} {dp : Int} (hD : ∀ x ∈ Ds, x < 256) (h1 : -900 ≤ dp) (h2 : dp ≤ 900) : (∀ y ∈ eText Ds dp, y < 256) ∧ eText Ds dp ≠ [] := by
  refine ⟨fun y hy => ?_, by unfold eText; simp⟩
  unfold eText at hy
  rcases List.mem_append.1 hy with h | h
  · rcases List.mem_append.1 h with h | h
    · exact hD y (List.mem_of_mem_take h)
    · split at h
      · rcases List.mem_cons.1 h with h | h
        · omega
        · exact hD y (List.mem_of_mem_drop h)
      · cases h
  · rcases List.mem_cons.1 h with h | h
    · omega
    · exact expT_small _ (by omega) (by omega) y h
theorem digF_small (x : Nat) : ∀ y ∈ digF x, y < 256 := by
  intro y hy
  unfold digF at hy
  obtain ⟨b, _, rfl⟩ := List.mem_map.1 hy
  exact b.toNat_lt
theorem dpF_range (x : Nat) (hx0 : 0 < x) (hx : x < 9218868437227405312) : -400 ≤ dpF x ∧ dpF x ≤ 420 := by
  obtain ⟨k1, k2, k3, k4, k5, k6, k7, k8⟩ := nm_facts x hx0 hx
  obtain ⟨s1, s2, s3, s4⟩ := short_pos (nmOf x) (neOf x) k5 k6 k7 k8
  have h := nDigits_le18 (sdOf x) s1 s2
  unfold dpF
  have e : spOf x = (shortF (nmOf x) (neOf x)).2 := rfl
  omega
set_option maxRecDepth 100000 in
set_option maxHeartbeats 1000000 in
theorem iformat_any (x : Nat) (w : World) (hx0 : 0 < x) (hx : x < 9218868437227405312) (hP : PTab w) (hU : UTab w) :
    Calls Tryz.prog 118 #[.float .f64 x, .int .u8 101, .int .i64 (-1), .int .i64 64] w fun e w' => e = .returned (.string (baOf (eText (digF x) (dpF x)))) ∧ Fr noB w w' := by
  obtain ⟨i0, hi, hz0, hz1, hz2⟩ := info_parts infoU8
  have hdp := dpF_range x hx0 hx
  obtain ⟨hs1, hs2⟩ := eText_small (dp := dpF x) (digF_small x) (by omega) (by omega)
  have HFT : Hid (∀ W : World, Fr noB w W → W.ownsRow w.heap.size 5 1 (.slice (some ⟨w.heap.size, 0, none⟩) 0 24) 0 [] → Calls Tryz.prog 151 #[.slice (some ⟨w.heap.size, 0, none⟩) 0 24, .float .f64 x, .int .u8 101, .int .i64 (-1)] W fun e w' => ∃ v', e = .returned v' ∧ Own W w.heap.size (.slice (some ⟨w.heap.size, 0, none⟩) 0 24) (eText (digF x) (dpF x)) w' v') := fun W hF ho => ftoa_any x w.heap.size _ _ W hx0 hx ho hF.size (hP.fr hF) (hU.fr hF)
  generalize eText (digF x) (dpF x) = T at *
  have HS : Hid _ := And.intro hs1 hs2
  clear hs1 hs2 hP hU hdp
  go_enter Tryz.func118, Tryz.ntmps118
  go_wp2_with (at_make; refine wpList_make_own _ rfl _ _ 53 rfl w.heap.size 5 i0 (.int .u8 0) 1 Tryz.underlying53 hi hz0 hz1 .i64 .i64 _ 24 rfl rfl (by decide) (by rw [hz2]; omega) (by unfold maxLen; omega) (Nat.le_refl _) ?_)
  intro w1 ho hg
  have hF1 : Fr noB w w1 := (Fr.refl noB w).grown hg (fun k hk => by cases hk)
  have HC := HFT.out w1 hF1 ho
  have HF1 : Hid _ := hF1
  clear hF1 ho hg
  go_wp2_with (go_at_call 151; refine HC.mono ?_; rintro e w2 ⟨v', rfl, hO⟩; have htx := hO.text HS.out.1 HS.out.2; have HO : Hid _ := hO; clear hO)
  go_ret
  exact ⟨rfl, HF1.out.then HO.out.fr (fun k hk => Or.inr (by
    have hk' : some w.heap.size = some k := hk
    cases hk'
    exact Nat.le_refl _))⟩
set_option maxRecDepth 100000 in
set_option maxHeartbeats 1000000 in
theorem format_any (x : Nat) (w : World) (hx0 : 0 < x) (hx : x < 9218868437227405312) (hP : PTab w) (hU : UTab w) :
    Calls Tryz.prog 86 #[.float .f64 x, .int .u8 101, .int .i64 (-1), .int .i64 64] w fun e w' => e = .returned (.string (baOf (eText (digF x) (dpF x)))) ∧ Fr noB w w' := by
  have HC := iformat_any x w hx0 hx hP hU
  generalize baOf (eText (digF x) (dpF x)) = T at *
  go_enter Tryz.func86, Tryz.ntmps86
  go_wp2_with (go_at_call 118; with_reducible refine HC.mono ?_; rintro e w2 ⟨rfl, hO⟩)
  go_ret
  exact ⟨rfl, hO⟩
#print axioms format_any
end Go.Proofs.YtdmjbhbiehjelaaGreatDoor
/- Texts cut, with a sign taken out, without noughts at the end, and as numbers: the library's contracts at the texts of floats. -/
namespace Go.Proofs.YtdmjbhbiehjelaaGreatDoor
open Go.RowKit Ieee Go.Shelf

theorem baOf_list (L : List Nat) : (baOf L).data.toList = L.map UInt8.ofNat := rfl
theorem baOf_size (L : List Nat) : (baOf L).size = L.length := by simp [baOf, ByteArray.size]
theorem ofNat_inj {a b : Nat} (ha : a < 256) (hb : b < 256) (h : UInt8.ofNat a = UInt8.ofNat b) : a = b := by
  have := congrArg UInt8.toNat h
  rw [UInt8.toNat_ofNat', UInt8.toNat_ofNat'] at this
  omega
theorem idx_hit (c : UInt8) : ∀ (A C : List UInt8), c ∉ A → Lib.index (A ++ c :: C) [c] = (A.length : Int)
  | [], C, _ => by simp [Lib.index, List.isPrefixOf]
  | b :: A, C, h => by
    have hb : (c == b) = false := by simp; intro e; exact h (by simp [e])
    have ih := idx_hit c A C (fun hc => h (by simp [hc]))
    simp only [List.cons_append, Lib.index, List.isPrefixOf, hb, Bool.false_and, Bool.false_eq_true, if_false, ih]
    rw [if_neg (by simp)]
    simp
theorem idx_miss (c : UInt8) : ∀ (A : List UInt8), c ∉ A → Lib.index A [c] = -1
  | [], _ => rfl
  | b :: A, h => by
    have hb : (c == b) = false := by simp; intro e; exact h (by simp [e])
    have ih := idx_miss c A (fun hc => h (by simp [hc]))
    simp [Lib.index, List.isPrefixOf, hb, ih]
theorem cut_hit (c : UInt8) (A C : List UInt8) (h : c ∉ A) : Lib.cut (A ++ c :: C) [c] = (A, C, true) := by
  unfold Lib.cut
  rw [idx_hit c A C h, if_pos (by omega)]
  simp
theorem cut_miss (c : UInt8) (A : List UInt8) (h : c ∉ A) : Lib.cut A [c] = (A, [], false) := by
  unfold Lib.cut
  rw [idx_miss c A h, if_neg (by omega)]
theorem rep_hit (c : UInt8) (A C : List UInt8) (h : c ∉ A) : Lib.replace (A ++ c :: C) [c] [] 1 = A ++ C := by
  have hc : 1 ≤ Lib.count (A ++ c :: C) [c] := by
    unfold Lib.count Lib.countFrom
    rw [idx_hit c A C h, if_neg (by simp)]
    omega
  unfold Lib.replace Lib.replaceNum
  rw [if_neg (by simp), if_neg (by omega)]
  rw [show ((1 : Int)).toNat = 0 + 1 from rfl, Lib.replaceK_hit _ _ 0 _ A.length (idx_hit c A C h)]
  simp [Lib.replaceK]
theorem rep_miss (c : UInt8) (A : List UInt8) (h : c ∉ A) : Lib.replace A [c] [] 1 = A := by
  have hc : Lib.count A [c] = 0 := by
    unfold Lib.count Lib.countFrom
    rw [idx_miss c A h, if_pos (by simp)]
  unfold Lib.replace Lib.replaceNum
  rw [if_neg (by simp), if_pos (by omega), hc]
  rfl
theorem trim_none (c : UInt8) (A : List UInt8) (h : A.getLast? ≠ some c) : Lib.trimRightB A c = A := by
  unfold Lib.trimRightB
  cases hr : A.reverse with
  | nil => simp at hr; simp [hr]
  | cons b t =>
    have hb : A.getLast? = some b := by rw [← List.head?_reverse, hr]; rfl
    have hne : (b == c) = false := by simp; intro e; rw [hb, e] at h; exact h rfl
    rw [List.dropWhile_cons, hne]
    simp only [Bool.false_eq_true, if_false]
    rw [← hr, List.reverse_reverse]
/-- The digits of a power of ten. -/
def tailT (a : Nat) : List Nat := if a < 10 then [48, 48 + a] else if a < 100 then [48 + a / 10, 48 + a % 10] else [48 + a / 100, 48 + a / 10 % 10, 48 + a % 10]
theorem expT_eq (x : Int) : expT x = (if x < 0 then 45 else 43) :: tailT x.natAbs := rfl
theorem atoi_all : ∀ a : _root_.Fin 1000, Lib.atoi ((45 :: tailT a.val).map UInt8.ofNat) = some (-(a.val : Int)) ∧ Lib.atoi ((43 :: tailT a.val).map UInt8.ofNat) = some (a.val : Int) ∧ (tailT a.val).length ≤ 3 := by decide +kernel
theorem atoi_exp (x : Int) (h1 : -999 ≤ x) (h2 : x ≤ 999) : Lib.atoi ((expT x).map UInt8.ofNat) = some x ∧ (expT x).length ≤ 4 := by
  obtain ⟨a, b, c⟩ := atoi_all ⟨x.natAbs, by omega⟩
  rw [expT_eq]
  by_cases hx : x < 0
  · rw [if_pos hx]
    refine ⟨a.trans ?_, by simp; omega⟩
    congr 1
    simp
    omega
  · rw [if_neg hx]
    refine ⟨b.trans ?_, by simp; omega⟩
    congr 1
    simp
    omega

/-- The variable of the library that says how long a text may be looked for. -/
def XTab (w : World) : Prop := 10 < w.heap.size ∧ ∃ m, w.cell? ⟨10, 0, none⟩ = some (.int .i64 m)
theorem XTab.fr {w w' : World} (h : XTab w) (hF : Fr noB w w') : XTab w' := by
  obtain ⟨h1, m, h2⟩ := h
  exact ⟨Nat.lt_of_lt_of_le h1 hF.size, m, (hF.cell (a := ⟨10, 0, none⟩) h1 id).trans h2⟩
theorem cutS_any (s sep : ByteArray) (w : World) (hX : XTab w) (hs : s.size < 4294967281) : Calls Tryz.prog 104 #[.string s, .string sep] w fun e w' => e = .returned (.tuple #[.string ⟨(Lib.cut s.data.toList sep.data.toList).1.toArray⟩, .string ⟨(Lib.cut s.data.toList sep.data.toList).2.1.toArray⟩, .bool (Lib.cut s.data.toList sep.data.toList).2.2]) ∧ ∃ n, w' = w.drewN n := by
  obtain ⟨_, m, hm⟩ := hX
  exact Any.strings_Cut { Tryz.laysLaysMn145 with } s sep m w hs hm
theorem bldX : Builder.Extra Tryz.prog Tryz.laysLaysMn154_ren where
  sizeBuilder := by kernel_rfl
  liesBuilder := by kernel_rfl
  t5 := Tryz.underlying5
  a5 := Tryz.isAgg5
  z5 := Tryz.sizeOf5
  v5 := Tryz.zeroValue5
  infoByte := by kernel_rfl
  cellsByte := by kernel_rfl
  sizeByte := by kernel_rfl
  neB5 := by decide
theorem repS_any (s old new : ByteArray) (n : Int) (w : World) (hX : XTab w) (hs : s.size < 4294967281) (h1 : 1 ≤ old.size) (hlen : s.size + Lib.countB s old * new.size ≤ 140737488355328) : Calls Tryz.prog 107 #[.string s, .string old, .string new, .int .i64 n] w fun e w' => e = .returned (.string ⟨(Lib.replace s.data.toList old.data.toList new.data.toList n).toArray⟩) ∧ Fr noB w w' := by
  obtain ⟨_, m, hm⟩ := hX
  exact (Any.strings_Replace { Tryz.laysLaysMn154 with } bldX s old new n m w hs hm h1 hlen).mono fun e w' ⟨he, hb⟩ => ⟨he, Fr.ofBelow hb⟩
theorem trimS_any (s : ByteArray) (c : UInt8) (hc : c.toNat < 128) (w : World) (hs : s.size ≤ 9223372036854775807) : Calls Tryz.prog 106 #[.string s, .string ⟨#[c]⟩] w fun e w' => e = .returned (.string ⟨(Lib.trimRightB s.data.toList c).toArray⟩) ∧ w' = w :=
  Any.strings_TrimRight_one Tryz.laysLaysn162 s c hc w hs
theorem bytesWorld_fr (w : World) (t : TypeId) (l : ByteArray) : Fr noB w (Lib.bytesWorld w t l) :=
  ⟨rfl, rfl, rfl, by rw [Lib.bytesWorld_size]; omega, fun k hk _ => Lib.bytesWorld_at_old w t l k hk⟩
theorem atoi_in (s : ByteArray) (n : Int) (hl : s.size ≤ 18) (h : Lib.atoi s.data.toList = some n) (w : World) : Calls Tryz.prog 87 #[.string s] w fun e w' => e = .returned (.tuple #[.int .i64 n, .nilIface]) ∧ ∃ t, w' = Lib.bytesWorld w (Tryz.laysLaysn172_ren.t 5) t := Any.strconv_Atoi Tryz.laysLaysn172 s n hl h w
theorem atoiS_any (s : ByteArray) (n : Int) (hl : s.size ≤ 18) (h : Lib.atoi s.data.toList = some n) (w : World) : Calls Tryz.prog 87 #[.string s] w fun e w' => e = .returned (.tuple #[.int .i64 n, .nilIface]) ∧ Fr noB w w' :=
  (atoi_in s n hl h w).mono fun e w' ⟨he, t, ht⟩ => ⟨he, by rw [ht]; exact bytesWorld_fr _ _ _⟩

/-- All that the texts of floats read of the library's variables. -/
structure NTab (w : World) : Prop where
  p : PTab w
  u : UTab w
  x : XTab w
theorem NTab.fr {w w' : World} (h : NTab w) (hF : Fr noB w w') : NTab w' := ⟨h.p.fr hF, h.u.fr hF, h.x.fr hF⟩
theorem digF_digits (x : Nat) : ∀ y ∈ digF x, 48 ≤ y ∧ y ≤ 57 := by
  intro y hy
  unfold digF at hy
  obtain ⟨b, hb, rfl⟩ := List.mem_map.1 hy
  have hb2 := List.mem_of_mem_take hb
  have hall : ∀ u, ∀ b ∈ Lib.decDigits u, 48 ≤ b.toNat ∧ b.toNat ≤ 57 := by
    intro u
    induction u using Nat.strongRecOn with
    | _ u ih =>
      intro b hb
      by_cases hs : u < 10
      · rw [Lib.decDigits_one hs] at hb
        rw [List.mem_singleton.1 hb, UInt8.toNat_ofNat']
        omega
      · rw [Lib.decDigits, dif_neg hs] at hb
        rcases List.mem_append.1 hb with h | h
        · exact ih (u / 10) (by omega) b h
        · rw [List.mem_singleton.1 h, UInt8.toNat_ofNat']
          omega
  exact hall _ b hb2
theorem digF_len (x : Nat) (hx0 : 0 < x) (hx : x < 9218868437227405312) : 1 ≤ (digF x).length ∧ (digF x).length ≤ 18 ∧ (digF x).getLast? ≠ some 48 := by
  obtain ⟨k1, k2, k3, k4, k5, k6, k7, k8⟩ := nm_facts x hx0 hx
  obtain ⟨s1, s2, s3, s4⟩ := short_pos (nmOf x) (neOf x) k5 k6 k7 k8
  have h18 := nDigits_le18 (sdOf x) s1 s2
  have hp := nz_pos (sdOf x) s1
  have hle := nzF_le (Lib.decDigits (sdOf x)) (Lib.nDigits (sdOf x))
  have hl := Lib.decDigits_length (sdOf x)
  unfold digF
  have hlen : (((Lib.decDigits (sdOf x)).take (nzF (Lib.decDigits (sdOf x)) (Lib.nDigits (sdOf x)))).map UInt8.toNat).length = nzF (Lib.decDigits (sdOf x)) (Lib.nDigits (sdOf x)) := by
    rw [List.length_map, List.length_take]; omega
  refine ⟨by omega, by omega, ?_⟩
  have hnz : ∀ (L : List UInt8) k, 1 ≤ nzF L k → L.getD (nzF L k - 1) 0 ≠ 48 := by
    intro L k
    induction k with
    | zero => intro h; simp [nzF] at h
    | succ k ih =>
      rw [nzF_succ]
      split
      · exact ih
      · intro _; simpa using ‹_›
  have h := hnz _ _ hp
  generalize nzF (Lib.decDigits (sdOf x)) (Lib.nDigits (sdOf x)) = k at *
  rw [List.getLast?_eq_getElem?, hlen, List.getElem?_map, List.getElem?_take, if_pos (by omega)]
  intro hc
  obtain ⟨b, hb, hb2⟩ := Option.map_eq_some_iff.1 hc
  apply h
  rw [List.getD, hb]
  exact UInt8.toNat_inj.1 hb2

/-- The digits with their point, ahead of the e. -/
def mText (Ds : List Nat) : List Nat := Ds.take 1 ++ (if 1 < Ds.length then 46 :: Ds.drop 1 else [])
theorem eText_cut (Ds : List Nat) (dp : Int) : eText Ds dp = mText Ds ++ 101 :: expT (dp - 1) := rfl
theorem mem_ba {c : Nat} {L : List Nat} (hc : c < 256) (hL : ∀ y ∈ L, y < 256) (h : UInt8.ofNat c ∈ L.map UInt8.ofNat) : c ∈ L := by
  obtain ⟨y, hy, e⟩ := List.mem_map.1 h
  rw [← ofNat_inj (hL y hy) hc e]
  exact hy
theorem mText_mem {Ds : List Nat} {y : Nat} (h : y ∈ mText Ds) : y = 46 ∨ y ∈ Ds := by
  unfold mText at h
  rcases List.mem_append.1 h with h | h
  · exact Or.inr (List.mem_of_mem_take h)
  · split at h
    · rcases List.mem_cons.1 h with h | h
      · exact Or.inl h
      · exact Or.inr (List.mem_of_mem_drop h)
    · cases h
theorem fin_iff (x : Nat) : finB x = true ↔ x % 9223372036854775808 < 9218868437227405312 := by
  unfold finB Format.read
  dsimp only
  rw [signWeight_d]
  have hb := binade_d
  have hi := infRung_d
  by_cases c1 : x % 9223372036854775808 < double.binade
  · rw [if_pos c1]; simp; omega
  · rw [if_neg c1]
    by_cases c2 : x % 9223372036854775808 < double.infRung
    · rw [if_pos c2]; simp; omega
    · rw [if_neg c2]
      by_cases c3 : x % 9223372036854775808 = double.infRung
      · rw [if_pos c3]; simp; omega
      · rw [if_neg c3]; simp; omega
theorem V_zero_iff {x : Nat} (hf : Fin x) : V x = 0 ↔ x % 9223372036854775808 = 0 := by
  obtain ⟨s, m, e, hr⟩ := hf
  rw [V_number hr]
  have hp := Nat.two_pow_pos (e + 1074).toNat
  have hm : m = 0 ↔ x % 9223372036854775808 = 0 := by
    unfold Format.read at hr
    dsimp only at hr
    rw [signWeight_d] at hr
    split at hr
    · injection hr with _ h2 _
      omega
    · rename_i c1
      have hb := binade_d
      split at hr
      · injection hr with _ h2 _
        omega
      · split at hr <;> cases hr
  rw [← hm]
  constructor
  · intro h
    have h2 : ((m * 2 ^ (e + 1074).toNat : Nat) : Int) = 0 := by
      cases s <;> simp at h ⊢ <;> exact h
    have h3 : m * 2 ^ (e + 1074).toNat = 0 := by omega
    rcases Nat.mul_eq_zero.1 h3 with h | h
    · exact h
    · omega
  · rintro rfl; simp
theorem zero_V : V 0 = 0 := by
  have h : double.read 0 = .number false 0 (-1074) := by decide
  rw [V_number h]; simp
theorem zero_fin : Fin 0 := ⟨false, 0, -1074, by decide⟩
theorem order_zero (x : Nat) (hf : Fin x) : (FloatKind.f64.format.order x 0 == some .eq) = decide (x % 9223372036854775808 = 0) := by
  show (double.order x 0 == some .eq) = _
  rw [order_V hf zero_fin, zero_V, cmp_eq]
  exact decide_eq_decide.2 (V_zero_iff hf)

set_option maxRecDepth 100000 in
set_option maxHeartbeats 1000000 in
theorem digits_pos (x : Nat) (w : World) (hx : x < 18446744073709551616) (h0 : 0 < x % 9223372036854775808) (hf : x % 9223372036854775808 < 9218868437227405312) (hT : NTab w) :
    Calls Tryz.prog 69 #[.float .f64 x] w fun e w' => e = .returned (.tuple #[.string (baOf (digF (x % 9223372036854775808))), .int .i64 (dpF (x % 9223372036854775808)), .int .i64 0]) ∧ Fr noB w w' := by
  obtain ⟨y, hy⟩ : ∃ y, x % 9223372036854775808 = y := ⟨_, rfl⟩
  have HN := finite_any x hx
  have HA := abs_any x hx
  have hfin : finB x = true := (fin_iff x).2 hf
  have hz : (FloatKind.f64.format.order x 0 == some .eq) = false := by rw [order_zero x (fin_of hfin)]; simp; omega
  rw [hy] at h0 hf HA ⊢
  rw [hfin] at HN
  have HF : Hid (∀ W, Fr noB w W → Calls Tryz.prog 86 #[.float .f64 y, .int .u8 101, .int .i64 (-1), .int .i64 64] W fun e w' => e = .returned (.string (baOf (eText (digF y) (dpF y)))) ∧ Fr noB W w') := fun W hW => format_any y W h0 hf (hT.p.fr hW) (hT.u.fr hW)
  obtain ⟨l1, l2, l3⟩ := digF_len y h0 hf
  have hd := digF_digits y
  have hdp := dpF_range y h0 hf
  obtain ⟨a1, a2⟩ := atoi_exp (dpF y - 1) (by omega) (by omega)
  generalize digF y = Ds at *
  generalize dpF y = dp at *
  have hm : ∀ z ∈ mText Ds, z < 256 ∧ z ≠ 101 := fun z hz => by rcases mText_mem hz with h | h; omega; have := hd z h; omega
  have hml : (mText Ds).length ≤ 19 := by unfold mText; rw [List.length_append, List.length_take]; split <;> simp <;> omega
  have HC : Hid (∀ W, Fr noB w W → Calls Tryz.prog 104 #[.string (baOf (eText Ds dp)), .string ⟨#[101]⟩] W fun e w' => e = .returned (.tuple #[.string (baOf (mText Ds)), .string (baOf (expT (dp - 1))), .bool true]) ∧ ∃ n, w' = W.drewN n) := by
    intro W hW
    have h := cutS_any (baOf (eText Ds dp)) ⟨#[101]⟩ W (hT.x.fr hW) (by rw [baOf_size, eText_cut, List.length_append, List.length_cons]; omega)
    have hc : Lib.cut (baOf (eText Ds dp)).data.toList [101] = ((mText Ds).map UInt8.ofNat, (expT (dp - 1)).map UInt8.ofNat, true) := by
      rw [baOf_list, eText_cut, List.map_append, List.map_cons]
      exact cut_hit 101 _ _ (fun hh => (hm 101 (mem_ba (by omega) (fun z hz => (hm z hz).1) hh)).2 rfl)
    rw [show (⟨#[101]⟩ : ByteArray).data.toList = [101] from rfl, hc] at h
    exact h
  have HR : Hid (∀ W, Fr noB w W → Calls Tryz.prog 107 #[.string (baOf (mText Ds)), .string ⟨#[46]⟩, .string ⟨#[]⟩, .int .i64 1] W fun e w' => e = .returned (.string (baOf Ds)) ∧ Fr noB W w') := by
    intro W hW
    have h := repS_any (baOf (mText Ds)) ⟨#[46]⟩ ⟨#[]⟩ 1 W (hT.x.fr hW) (by rw [baOf_size]; omega) (by decide) (by rw [baOf_size, show (⟨#[]⟩ : ByteArray).size = 0 from rfl]; omega)
    have hc : Lib.replace (baOf (mText Ds)).data.toList [46] [] 1 = Ds.map UInt8.ofNat := by
      have hn46 : ∀ L : List Nat, (∀ z ∈ L, z ∈ Ds) → (46 : UInt8) ∉ L.map UInt8.ofNat := fun L hL hh => by
        have := mem_ba (c := 46) (by omega) (fun z hz => by have := hd z (hL z hz); omega) hh
        have := hd 46 (hL 46 this)
        omega
      rw [baOf_list]
      unfold mText
      by_cases hl : 1 < Ds.length
      · rw [if_pos hl, List.map_append, List.map_cons]
        refine (rep_hit 46 _ _ (hn46 _ (fun z hz => List.mem_of_mem_take hz))).trans ?_
        rw [← List.map_append, List.take_append_drop]
      · rw [if_neg hl, List.append_nil]
        refine (rep_miss 46 _ (hn46 _ (fun z hz => List.mem_of_mem_take hz))).trans ?_
        rw [List.take_of_length_le (by omega)]
    rw [show (⟨#[46]⟩ : ByteArray).data.toList = [46] from rfl, show (⟨#[]⟩ : ByteArray).data.toList = [] from rfl, hc] at h
    exact h
  have HTR : Hid (∀ W, Calls Tryz.prog 106 #[.string (baOf Ds), .string ⟨#[48]⟩] W fun e w' => e = .returned (.string (baOf Ds)) ∧ w' = W) := by
    intro W
    have h := trimS_any (baOf Ds) 48 (by decide) W (by rw [baOf_size]; omega)
    have hc : Lib.trimRightB (baOf Ds).data.toList 48 = Ds.map UInt8.ofNat := by
      rw [baOf_list]
      refine trim_none 48 _ ?_
      rw [List.getLast?_map]
      intro hh
      obtain ⟨z, hz, e⟩ := Option.map_eq_some_iff.1 hh
      have hz2 : z ∈ Ds := List.mem_of_getLast? hz
      have := ofNat_inj (a := z) (b := 48) (by have := hd z hz2; omega) (by omega) e
      rw [this] at hz
      exact l3 hz
    rw [hc] at h
    exact h
  have HAT : Hid (∀ W, Calls Tryz.prog 87 #[.string (baOf (expT (dp - 1)))] W fun e w' => e = .returned (.tuple #[.int .i64 (dp - 1), .nilIface]) ∧ Fr noB W w') := fun W => atoiS_any (baOf (expT (dp - 1))) (dp - 1) (by rw [baOf_size]; omega) (by rw [baOf_list]; exact a1) W
  clear a1 a2 hm hml l1 l2 l3 hd
  generalize baOf (eText Ds dp) = T1 at *
  generalize baOf (mText Ds) = T2 at *
  generalize baOf (expT (dp - 1)) = T3 at *
  generalize baOf Ds = T4 at *
  go_enter Tryz.func69, Tryz.ntmps69
  go_wp2_with (first | (go_at_call 103; refine (HN _).mono ?_; rintro e w1 ⟨rfl, rfl⟩) | (go_at_call 105; refine (HA _).mono ?_; rintro e w1 ⟨rfl, rfl⟩) | (go_at_call 86; refine (HF.out _ (Fr.refl _ _)).mono ?_; rintro e w1 ⟨rfl, hF1⟩) | (go_at_call 104; refine (HC.out _ hF1).mono ?_; rintro e w2 ⟨rfl, k2, rfl⟩; have hF2 := hF1.drewN k2) | (go_at_call 107; refine (HR.out _ hF2).mono ?_; rintro e w3 ⟨rfl, hF3⟩; have hG3 := hF2.trans hF3) | (go_at_call 106; refine (HTR.out _).mono ?_; rintro e w4 ⟨rfl, rfl⟩) | (go_at_call 87; refine (HAT.out _).mono ?_; rintro e w5 ⟨rfl, hF5⟩; have hG5 := hG3.trans hF5))
  go_ret3
  exact ⟨rfl, hG5⟩
#print axioms digits_pos
end Go.Proofs.YtdmjbhbiehjelaaGreatDoor
