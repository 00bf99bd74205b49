/- Proved: for all bits of a float, every least and every number of places the law NumfmtPlain answers true: commas and noughts ahead change nothing of a number. The condition: the listed tables read as they are laid (NumfmtPlainCardSaid, tied to the program's text). -/
import Derived.Test.YtnklmcmdlobicaaGreatDoorFLay
namespace Go.Proofs.YtnklmcmdlobicaaGreatDoor
open Go.RowKit Ieee Go.Shelf

/-- Is what follows a comma or a digit? -/
def nxB : List UInt8 → Bool
  | [] => false
  | d :: _ => decide (d = 44) || (decide (48 ≤ d.toNat) && decide (d.toNat ≤ 57))
/-- What is left without commas and without noughts ahead. -/
def barA : Bool → List UInt8 → List UInt8
  | _, [] => []
  | ld, c :: t => if c = 44 then barA ld t else if c = 48 ∧ ld = true ∧ nxB t = true then barA ld t else c :: barA (ld && decide (c = 45)) t
theorem barA_len : ∀ (L : List UInt8) (ld : Bool), (barA ld L).length ≤ L.length
  | [], ld => by simp [barA]
  | c :: t, ld => by
    unfold barA
    split
    · have := barA_len t ld; simp; omega
    · split
      · have := barA_len t ld; simp; omega
      · have := barA_len t (ld && decide (c = 45)); simp; omega
theorem bar_false : ∀ (L : List UInt8), (44 : UInt8) ∉ L → barA false L = L
  | [], _ => rfl
  | c :: t, h => by
    have h1 : ¬ c = 44 := fun e => h (by simp [e])
    have h2 := bar_false t (fun e => h (List.mem_cons_of_mem _ e))
    unfold barA
    rw [if_neg h1, if_neg (by simp), Bool.false_and, h2]
theorem bar_grp (n : Nat) (R : List UInt8) (hR : (44 : UInt8) ∉ R) : ∀ (D : List UInt8) (k : Nat), isDg D → barA false (grpA n k D ++ R) = D ++ R
  | [], k, _ => by
    show barA false ([] ++ R) = [] ++ R
    rw [List.nil_append]
    exact bar_false R hR
  | c :: t, k, h => by
    have hc := h c (by simp)
    have h1 : ¬ c = 44 := fun e => by rw [e] at hc; exact absurd hc.1 (by decide)
    have h2 := bar_grp n R hR t (k + 1) (fun z hz => h z (List.mem_cons_of_mem _ hz))
    have h3 : barA false (c :: (grpA n (k + 1) t ++ R)) = c :: (t ++ R) := by
      unfold barA
      rw [if_neg h1, if_neg (by simp), Bool.false_and, h2]
    unfold grpA
    split
    · show barA false (44 :: c :: (grpA n (k + 1) t ++ R)) = _
      rw [show barA false (44 :: c :: (grpA n (k + 1) t ++ R)) = barA false (c :: (grpA n (k + 1) t ++ R)) by rw [barA, if_pos rfl]]
      exact h3
    · exact h3
/-- No nought ahead of digits. -/
def NL (W : List UInt8) : Prop := ∃ a t, W = a :: t ∧ (a ≠ 48 ∨ t = [])
theorem grp_nx (n k : Nat) (D R : List UInt8) (h : isDg D) (hD : D ≠ []) : nxB (grpA n k D ++ R) = true := by
  cases D with
  | nil => exact absurd rfl hD
  | cons c t =>
    have hc := h c (by simp)
    unfold grpA
    split
    · rfl
    · show nxB (c :: (grpA n (k + 1) t ++ R)) = true
      show (decide (c = 44) || (decide (48 ≤ c.toNat) && decide (c.toNat ≤ 57))) = true
      rw [decide_eq_true hc.1, decide_eq_true hc.2, Bool.and_self, Bool.or_true]
theorem bar_comma (ld : Bool) (L : List UInt8) : barA ld (44 :: L) = barA ld L := by rw [barA, if_pos rfl]
theorem bar_main (n : Nat) (R W : List UInt8) (hR : (44 : UInt8) ∉ R) (hN : nxB R = false) (hW : isDg W) (hL : NL W) : ∀ (j k : Nat), barA true (grpA n k (List.replicate j 48 ++ W) ++ R) = W ++ R
  | 0, k => by
    obtain ⟨a, t, rfl, hat⟩ := hL
    have ha := hW a (by simp)
    have h1 : ¬ a = 44 := fun e => by rw [e] at ha; exact absurd ha.1 (by decide)
    have h5 : ¬ a = 45 := fun e => by rw [e] at ha; exact absurd ha.1 (by decide)
    have ht : isDg t := fun z hz => hW z (List.mem_cons_of_mem _ hz)
    have key : barA true (a :: (grpA n (k + 1) t ++ R)) = a :: (t ++ R) := by
      have hneg : ¬ (a = 48 ∧ true = true ∧ nxB (grpA n (k + 1) t ++ R) = true) := by
        rintro ⟨e1, _, e3⟩
        rcases hat with h | h
        · exact h e1
        · subst h
          rw [show grpA n (k + 1) [] ++ R = R from rfl, hN] at e3
          cases e3
      rw [barA, if_neg h1, if_neg hneg, decide_eq_false h5, Bool.and_false, bar_grp n R hR t (k + 1) ht]
    show barA true (grpA n k ([] ++ a :: t) ++ R) = _
    rw [List.nil_append]
    unfold grpA
    split
    · show barA true (44 :: a :: (grpA n (k + 1) t ++ R)) = _
      rw [bar_comma]
      exact key
    · exact key
  | j + 1, k => by
    have ih := bar_main n R W hR hN hW hL j (k + 1)
    have hdg : isDg (List.replicate j 48 ++ W) := fun z hz => by
      rcases List.mem_append.1 hz with h | h
      · exact rep_dg _ z h
      · exact hW z h
    have hne : List.replicate j 48 ++ W ≠ [] := by
      obtain ⟨a, t, rfl, _⟩ := hL
      simp
    have hnx := grp_nx n (k + 1) _ R hdg hne
    have key : barA true (48 :: (grpA n (k + 1) (List.replicate j 48 ++ W) ++ R)) = W ++ R := by
      rw [barA, if_neg (by decide), if_pos ⟨rfl, rfl, hnx⟩, ih]
    show barA true (grpA n k (48 :: (List.replicate j 48 ++ W)) ++ R) = _
    rw [grpA]
    split
    · show barA true (44 :: 48 :: (grpA n (k + 1) (List.replicate j 48 ++ W) ++ R)) = _
      rw [bar_comma]
      exact key
    · exact key
theorem a_head (x : Nat) (hx0 : 0 < x) (hx : x < 9218868437227405312) : ∃ a t, aD x = a :: t ∧ a ≠ 48 := by
  have hm : 0 < mantOf x ∧ mantOf x < 9007199254740992 := by
    obtain ⟨a, b, _⟩ := nm_facts x hx0 hx
    exact ⟨a, b⟩
  have he : -1074 ≤ expOf x - 52 ∧ expOf x - 52 ≤ 971 := by
    unfold expOf
    split <;> omega
  obtain ⟨g1, g2⟩ := dec_good (mantOf x) (expOf x - 52) (by omega) (by omega) he.1 he.2
  obtain ⟨⟨a, t, e, h⟩, h9, h8⟩ := g1
  unfold aD
  rw [e]
  exact ⟨48 + a, t.map (48 + ·), rfl, by omega⟩
theorem d_facts2 (y : Nat) (hy : y < 9218868437227405312) : (0 < dP y → ∃ a t, dD y = a :: t ∧ a ≠ 48) := by
  intro h
  by_cases h0 : y = 0
  · subst h0
    exact absurd h (by decide)
  · have := a_head y (by omega) hy
    unfold dD
    simpa [h0] using this
theorem dW_nl (y : Nat) (hy : y < 9218868437227405312) : NL (dW y) := by
  obtain ⟨d1, d2, d3⟩ := d_facts y hy
  unfold dW fInt
  by_cases h : 0 < dP y
  · rw [if_pos h]
    obtain ⟨a, t, e, ha⟩ := d_facts2 y hy h
    obtain ⟨k, hk⟩ : ∃ k, (dP y).toNat = k + 1 := ⟨(dP y).toNat - 1, by omega⟩
    have hr := d3 a (by rw [e]; simp)
    rw [hk, e, List.take_succ_cons]
    refine ⟨UInt8.ofNat a, _, rfl, Or.inl fun e2 => ha ?_⟩
    have := congrArg UInt8.toNat e2
    rw [UInt8.toNat_ofNat', Nat.mod_eq_of_lt (by omega)] at this
    exact this
  · rw [if_neg h]
    exact ⟨48, [], rfl, Or.inr rfl⟩
theorem rs_head (a : UInt8) (r : List UInt8) (h : isDg (a :: r)) : ∃ b t, rsL (a :: r) = b :: t ∧ (b ≠ 48 ∨ (b = a ∧ t.length = r.length)) := by
  obtain ⟨T, hT⟩ := trim_suffix (a :: r)
  have hla := trim_last (a :: r)
  have hlen := congrArg List.length hT
  rw [List.length_append, List.length_cons] at hlen
  unfold rsL
  rw [List.length_cons]
  generalize Lib.trimRightB (a :: r) 57 = K at *
  dsimp only
  split
  · exact ⟨49, _, rfl, Or.inl (by decide)⟩
  · rename_i c he
    cases K with
    | nil => simp at he
    | cons a' K' =>
      have ea : a' = a := by
        have := congrArg List.head? hT
        simp at this
        exact this.symm
      subst ea
      cases K' with
      | nil =>
        have ec : c = a' := by simpa using he.symm
        subst ec
        refine ⟨c + 1, _, rfl, Or.inl fun e => ?_⟩
        have hc := h c (by simp)
        have hcn : c.toNat ≠ 57 := fun e => hla c he (UInt8.toNat_inj.1 e)
        have e2 : (c + 1).toNat = c.toNat + 1 := by
          rw [UInt8.toNat_add]
          have : (1 : UInt8).toNat = 1 := rfl
          omega
        rw [e] at e2
        have : (48 : UInt8).toNat = 48 := rfl
        omega
      | cons b K2 =>
        refine ⟨a', (b :: K2).dropLast ++ (c + 1) :: List.replicate (r.length + 1 - (a' :: b :: K2).length) 48, rfl, Or.inr ⟨rfl, ?_⟩⟩
        simp only [List.length_append, List.length_dropLast, List.length_cons, List.length_replicate] at hlen ⊢
        omega
theorem wX_nl (x p : Nat) (hf : finB x = true) (hp : p ≤ 30) : NL (wX x p) := by
  have ha := abs_fin x hf
  obtain ⟨l1, l2, l3⟩ := dw_len (absN x) ha
  have hm := dw_mem (absN x) ha
  have hnl := dW_nl (absN x) ha
  obtain ⟨f1, f2, f3⟩ := dgX_facts x p hf hp
  have hdg : isDg (dW (absN x) ++ (dF (absN x)).take p) := fun z hz => hm z (by
    rcases List.mem_append.1 hz with h | h
    · exact List.mem_append_left _ h
    · exact List.mem_append_right _ (List.mem_of_mem_take h))
  have hlt : ((dF (absN x)).take p).length = p := by rw [List.length_take]; omega
  obtain ⟨a, t, e, hat⟩ := hnl
  unfold wX
  have hcase : dgX x p = rsL (dW (absN x) ++ (dF (absN x)).take p) ∨ dgX x p = dW (absN x) ++ (dF (absN x)).take p := by
    unfold dgX
    split
    · exact Or.inl rfl
    · exact Or.inr rfl
  rcases hcase with h | h
  · rw [e, List.cons_append] at h hdg
    obtain ⟨b, u, e2, hb⟩ := rs_head a (t ++ (dF (absN x)).take p) hdg
    rw [e2] at h
    rw [h] at f2 ⊢
    rw [List.length_cons] at f2 ⊢
    obtain ⟨k, hk⟩ : ∃ k, u.length + 1 - p = k + 1 := ⟨u.length - p, by omega⟩
    rw [hk, List.take_succ_cons]
    refine ⟨b, _, rfl, ?_⟩
    rcases hb with hb | ⟨hb, hu⟩
    · exact Or.inl hb
    · rcases hat with hat | hat
      · exact Or.inl (by rw [hb]; exact hat)
      · subst hat
        rw [List.nil_append, hlt] at hu
        have : k = 0 := by omega
        subst this
        exact Or.inr rfl
  · rw [h, List.length_append, hlt, Nat.add_sub_cancel, List.take_left']
    · exact ⟨a, t, e, hat⟩
    · rfl
theorem bare_num (x l p : Nat) (hf : finB x = true) (hl : 1 ≤ l) (hp : p ≤ 15) : barA true (numX x l p true) = fxT x p := by
  obtain ⟨f1, f2, f3, f4, f5⟩ := wX_facts x p hf (by omega)
  have hnl := wX_nl x p hf (by omega)
  have h1 : w1X x l p = wX x p := by unfold w1X; rw [if_neg (by omega)]
  have key : ∀ R : List UInt8, (44 : UInt8) ∉ R → nxB R = false → barA true (w3X x l p true ++ R) = wX x p ++ R := by
    intro R hR hN
    unfold w3X w2X grpL
    rw [if_pos rfl, h1]
    exact bar_main _ R _ hR hN f1 hnl _ 0
  have hb : barA true (if (pX x p).isEmpty = true then w3X x l p true else w3X x l p true ++ 46 :: pX x p) = bodyX x p := by
    unfold bodyX
    cases hq : (pX x p).isEmpty with
    | true =>
      rw [if_pos rfl, if_pos rfl]
      have := key [] (by simp) rfl
      rwa [List.append_nil, List.append_nil] at this
    | false =>
      rw [if_neg (by simp), if_neg (by simp)]
      exact key (46 :: pX x p) (fun h => by
        rcases List.mem_cons.1 h with h | h
        · exact absurd h (by decide)
        · exact no_sign f2 44 (by decide) h) rfl
  rw [fxT_parts]
  unfold numX
  cases sgX x p with
  | false => rw [if_neg (by simp), List.nil_append, List.nil_append]; exact hb
  | true =>
    rw [if_pos rfl]
    show barA true (45 :: _) = 45 :: _
    rw [barA, if_neg (by decide), if_neg (by simp), show (true && decide ((45 : UInt8) = 45)) = true from rfl]
    exact congrArg (45 :: ·) hb
theorem plain_num (x p : Nat) (hf : finB x = true) (hp : p ≤ 15) : numX x 1 p false = fxT x p := by
  obtain ⟨f1, f2, f3, f4, f5⟩ := wX_facts x p hf (by omega)
  have h1 : w1X x 1 p = wX x p := by unfold w1X; rw [if_neg (by omega)]
  have h3 : w3X x 1 p false = wX x p := by
    unfold w3X w2X
    rw [if_neg (by simp), h1, show 1 - (wX x p).length = 0 by omega]
    rfl
  rw [fxT_parts]
  unfold numX bodyX
  rw [h3]
theorem numX_len (x l p : Nat) (g : Bool) (hf : finB x = true) (hl : l ≤ 20) (hp : p ≤ 15) : (numX x l p g).length ≤ 1000 := by
  obtain ⟨f1, f2, f3, f4, f5⟩ := wX_facts x p hf (by omega)
  have hw1 : (w1X x l p).length ≤ 401 := by
    unfold w1X
    split
    · simp
    · exact f4
  have hw2 : (w2X x l p).length ≤ 421 := by unfold w2X; rw [List.length_append, List.length_replicate]; omega
  have hw3 : (w3X x l p g).length ≤ 842 := by
    unfold w3X
    split
    · have := grpA_len (w2X x l p).length (w2X x l p) 0
      unfold grpL
      omega
    · omega
  unfold numX
  rw [List.length_append]
  have h1 : (if sgX x p = true then [(45 : UInt8)] else []).length ≤ 1 := by split <;> simp
  have h2 : (if (pX x p).isEmpty = true then w3X x l p g else w3X x l p g ++ 46 :: pX x p).length ≤ 900 := by
    split
    · omega
    · rw [List.length_append, List.length_cons]; omega
  omega
end Go.Proofs.YtnklmcmdlobicaaGreatDoor
namespace Go.Proofs.YtnklmcmdlobicaaGreatDoor
open Go.RowKit Ieee Go.Shelf

theorem own_start (w : World) : Own w w.heap.size (.slice none 0 0) [] (w.alloc (.cells #[] 5 (0, 0))) (.slice (some ⟨w.heap.size, 0, none⟩) 0 0) where
  row := ⟨rfl, Or.inr ⟨w.heap.size, 0, #[], rfl, Nat.le_refl _, heap_alloc_new w _, Nat.le_refl _, Nat.zero_le _, rfl, rfl⟩⟩
  fr := (Fr.refl _ _).alloc _
  at_ := Or.inr ⟨w.heap.size, rfl, Nat.le_refl _⟩
  bs := by simp
theorem fr_none {w w' : World} (h : Fr (fun k => (Value.slice none 0 0).ownBlock = some k) w w') : Fr noB w w' :=
  (Fr.refl noB w).then h (fun k hk => by
    have hk' : (none : Option Nat) = some k := hk
    cases hk')
theorem baOf_map (X : List UInt8) : baOf (X.map UInt8.toNat) = baL X := by
  unfold baOf baL
  rw [List.map_map, show (UInt8.ofNat ∘ UInt8.toNat) = id from funext fun b => by simp, List.map_id]
theorem barA_nat (ld : Bool) (cb : UInt8) (c : Nat) (hc : cb.toNat = c) (t : List UInt8) : barA ld (cb :: t) = if c = 44 then barA ld t else if c = 48 ∧ ld = true ∧ nxB t = true then barA ld t else cb :: barA (ld && decide (c = 45)) t := by
  subst hc
  have e : ∀ m : UInt8, (cb = m) = (cb.toNat = m.toNat) := fun m => propext UInt8.toNat_inj.symm
  rw [barA]
  simp only [e]
  rfl
theorem drop_getD (D : List UInt8) (k : Nat) (h : k < D.length) : D.drop k = D.getD k 0 :: D.drop (k + 1) := by
  rw [List.drop_eq_getElem_cons h, List.getD, List.getElem?_eq_getElem h]
  rfl
set_option maxRecDepth 100000 in
set_option maxHeartbeats 4000000 in
theorem bare_any (D : List UInt8) (hl : D.length ≤ 1000) (hne : barA true D ≠ []) (w : World) :
    Calls Tryz.prog 12 #[.string (baL D)] w fun e w' => e = .returned (.string (baL (barA true D))) ∧ Fr noB w w' := by
  have hsz : (baL D).size = D.length := baL_size D
  have hby : ∀ k (hk : k < D.length), ∀ h, ((baL D)[k]'h).toNat = (D.getD k 0).toNat := by
    intro k hk h
    rw [bl_at D (baL D) rfl k h hk, List.getD, List.getElem?_eq_getElem hk]
    rfl
  have HBY : Hid _ := hby
  obtain ⟨n, hn⟩ : ∃ n, D.length = n := ⟨_, rfl⟩
  have HL : Hid (D.length = n) := hn
  rw [hn] at hsz hl
  obtain ⟨s, hs⟩ : ∃ s, baL D = s := ⟨_, rfl⟩
  rw [hs] at hsz HBY ⊢
  obtain ⟨R, hR⟩ : ∃ R, barA true D = R := ⟨_, rfl⟩
  rw [hR] at hne ⊢
  have HR : Hid (barA true D = R) := hR
  have HNE : Hid (R ≠ []) := hne
  clear hby hs hn hR hne
  go_enter Tryz.func12, Tryz.ntmps12
  go_wp2_with fail
  go_loopw [3, 4, 9] (fun lv bv iv wr => ∃ (k nn sc : Nat) (X : List UInt8) (sa : Option Addr) (ld : Bool), lv = .slice sa nn sc ∧ bv = .bool ld ∧ iv = .int .i64 (k : Int) ∧ Hid (Gat w w.heap.size (.slice none 0 0) (X.map UInt8.toNat) wr sa nn sc) ∧ k ≤ n ∧ nn ≤ k ∧ Hid (X ++ barA ld (D.drop k) = R)) (fun _ _ iv _ => n - (intOf iv).toNat)
  case atStart => exact ⟨0, 0, 0, [], _, true, rfl, rfl, rfl, ⟨own_start w, rfl⟩, Nat.zero_le _, Nat.le_refl _, HR⟩
  case round =>
    clear HR
    obtain ⟨k, nn, sc, X, sa, ld, rfl, rfl, rfl, HO, hkn, hnk, HC⟩ := hrel
    by_cases hk : k < n
    · have hkD : k < D.length := by rw [HL.out]; exact hk
      have hck := HBY.out k hkD
      have hdrop := drop_getD D k hkD
      have HC2 := HC.out
      rw [hdrop] at HC2
      obtain ⟨cb, hcb⟩ : ∃ c, D.getD k 0 = c := ⟨_, rfl⟩
      rw [hcb] at HC2 hck
      obtain ⟨c, hc⟩ : ∃ c, cb.toNat = c := ⟨_, rfl⟩
      rw [hc] at hck
      rw [barA_nat ld cb c hc] at HC2
      have hc256 : c < 256 := by rw [← hc]; exact cb.toNat_lt
      have HCB : Hid (cb.toNat = c) := hc
      have HNX : Hid (k + 1 < n → ∃ d : Nat, (∀ h, (s[k + 1]'h).toNat = d) ∧ nxB (D.drop (k + 1)) = (decide (d = 44) || (decide (48 ≤ d) && decide (d ≤ 57)))) := by
        intro h
        have h' : k + 1 < D.length := by rw [HL.out]; exact h
        refine ⟨(D.getD (k + 1) 0).toNat, HBY.out (k + 1) h', ?_⟩
        rw [drop_getD D (k + 1) h']
        show (decide (D.getD (k + 1) 0 = 44) || _) = _
        rw [show decide (D.getD (k + 1) 0 = 44) = decide ((D.getD (k + 1) 0).toNat = 44) from by
          rw [decide_eq_decide]; exact (UInt8.toNat_inj (b := 44)).symm]
      have HNZ : Hid (¬ k + 1 < n → nxB (D.drop (k + 1)) = false) := by
        intro h
        rw [List.drop_of_length_le (by rw [HL.out]; omega)]
        rfl
      clear HC hdrop hcb hc hkD
      by_cases h44 : c = 44
      · rw [if_pos h44] at HC2
        have HX : Hid (X ++ barA ld (D.drop (k + 1)) = R) := HC2
        subst h44
        clear HC2
        go_wp2_with fail
        go_roundw
        case rel => exact ⟨k + 1, nn, sc, X, sa, _, rfl, rfl, by go_num, HO, by omega, by omega, HX⟩
        case measure => simp [intOf]; omega
      · rw [if_neg h44] at HC2
        have b44 : ((c : Int) == 44) = false := by rw [beq_eq_false_iff_ne]; omega
        have z44 : ¬ (c : Int) = 44 := by omega
        by_cases hsk : c = 48 ∧ ld = true ∧ nxB (D.drop (k + 1)) = true
        · rw [if_pos hsk] at HC2
          have HX : Hid (X ++ barA ld (D.drop (k + 1)) = R) := HC2
          obtain ⟨h48, hld, hnx⟩ := hsk
          subst h48
          subst hld
          have hk1 : k + 1 < n := by
            rcases Nat.lt_or_ge (k + 1) n with h | h
            · exact h
            · rw [HNZ.out (by omega)] at hnx; cases hnx
          obtain ⟨d, hdk, hnd⟩ := HNX.out hk1
          rw [hnd] at hnx
          clear HC2 hnd HNX HNZ h44 b44 z44
          by_cases hd : d = 44
          · subst hd
            clear hnx
            go_wp2_with fail
            go_roundw
            case rel => exact ⟨k + 1, nn, sc, X, sa, _, rfl, rfl, by go_num, HO, by omega, by omega, HX⟩
            case measure => simp [intOf]; omega
          · have hd2 : 48 ≤ d ∧ d ≤ 57 := by
              rw [decide_eq_false hd, Bool.false_or, Bool.and_eq_true, decide_eq_true_eq, decide_eq_true_eq] at hnx
              exact hnx
            have bd : ((d : Int) == 44) = false := by rw [beq_eq_false_iff_ne]; omega
            have zd : ¬ (d : Int) = 44 := by omega
            have z1 : (48 : Int) ≤ (d : Int) := by omega
            have z2 : (d : Int) ≤ 57 := by omega
            clear hnx
            go_wp2_with fail
            go_roundw
            case rel => exact ⟨k + 1, nn, sc, X, sa, _, rfl, rfl, by go_num, HO, by omega, by omega, HX⟩
            case measure => simp [intOf]; omega
        · rw [if_neg hsk] at HC2
          by_cases h48 : c = 48
          · subst h48
            have HX : Hid ((X ++ [cb]) ++ barA false (D.drop (k + 1)) = R) := by
              show _ = R
              rw [← HC2, List.append_assoc, show (ld && decide (48 = 45)) = false from by cases ld <;> rfl]
              rfl
            clear HC2
            cases ld with
            | false =>
              clear HNX HNZ hsk
              go_wp2_with (at_builtin; refine wpList_push rfl _ _ rfl (HO.out.own.alloc _) rfl rfl rfl (cells_src wr [48] _ _ rfl) (nn + 1) (by rw [HO.out.len]; rfl) (by omega) ?_)
              intro so8 sc8 w8 hO8
              have HO8 : Hid (Gat w w.heap.size (.slice none 0 0) ((X ++ [cb]).map UInt8.toNat) w8 so8 (nn + 1) sc8) := by
                rw [List.map_append, List.map_singleton, HCB.out]
                exact ⟨hO8, by rw [List.length_append, HO.out.len]; rfl⟩
              clear hO8 HO
              go_wp2_with fail
              go_roundw
              case rel => exact ⟨k + 1, nn + 1, sc8, X ++ [cb], so8, false, rfl, rfl, by go_num, HO8, by omega, by omega, HX⟩
              case measure => simp [intOf]; omega
            | true =>
              by_cases hk1 : k + 1 < n
              · obtain ⟨d, hdk, hnd⟩ := HNX.out hk1
                have hnx : (decide (d = 44) || (decide (48 ≤ d) && decide (d ≤ 57))) = false := by
                  rw [← hnd]
                  cases hq : nxB (D.drop (k + 1)) with
                  | false => rfl
                  | true => exact absurd ⟨rfl, rfl, hq⟩ hsk
                have hd44 : ¬ d = 44 := fun e => by rw [decide_eq_true e] at hnx; cases hnx
                have bd : ((d : Int) == 44) = false := by rw [beq_eq_false_iff_ne]; omega
                have zd : ¬ (d : Int) = 44 := by omega
                rw [decide_eq_false hd44, Bool.false_or] at hnx
                clear HNX HNZ hsk hnd
                by_cases h4 : 48 ≤ d
                · have h5 : ¬ d ≤ 57 := fun h => by rw [decide_eq_true h4, decide_eq_true h] at hnx; cases hnx
                  have z1 : (48 : Int) ≤ (d : Int) := by omega
                  have z2 : ¬ (d : Int) ≤ 57 := by omega
                  have z3 : decide ((d : Int) ≤ 57) = false := decide_eq_false z2
                  clear hnx
                  go_wp2_with (at_builtin; refine wpList_push rfl _ _ rfl (HO.out.own.alloc _) rfl rfl rfl (cells_src wr [48] _ _ rfl) (nn + 1) (by rw [HO.out.len]; rfl) (by omega) ?_)
                  intro so8 sc8 w8 hO8
                  have HO8 : Hid (Gat w w.heap.size (.slice none 0 0) ((X ++ [cb]).map UInt8.toNat) w8 so8 (nn + 1) sc8) := by
                    rw [List.map_append, List.map_singleton, HCB.out]
                    exact ⟨hO8, by rw [List.length_append, HO.out.len]; rfl⟩
                  clear hO8 HO
                  go_wp2_with fail
                  go_roundw
                  case rel => exact ⟨k + 1, nn + 1, sc8, X ++ [cb], so8, false, rfl, rfl, by go_num, HO8, by omega, by omega, HX⟩
                  case measure => simp [intOf]; omega
                · have z1 : ¬ (48 : Int) ≤ (d : Int) := by omega
                  have z3 : decide ((48 : Int) ≤ (d : Int)) = false := decide_eq_false z1
                  clear hnx
                  go_wp2_with (at_builtin; refine wpList_push rfl _ _ rfl (HO.out.own.alloc _) rfl rfl rfl (cells_src wr [48] _ _ rfl) (nn + 1) (by rw [HO.out.len]; rfl) (by omega) ?_)
                  intro so8 sc8 w8 hO8
                  have HO8 : Hid (Gat w w.heap.size (.slice none 0 0) ((X ++ [cb]).map UInt8.toNat) w8 so8 (nn + 1) sc8) := by
                    rw [List.map_append, List.map_singleton, HCB.out]
                    exact ⟨hO8, by rw [List.length_append, HO.out.len]; rfl⟩
                  clear hO8 HO
                  go_wp2_with fail
                  go_roundw
                  case rel => exact ⟨k + 1, nn + 1, sc8, X ++ [cb], so8, false, rfl, rfl, by go_num, HO8, by omega, by omega, HX⟩
                  case measure => simp [intOf]; omega
              · have zk : ¬ (k : Int) + 1 < (n : Int) := by omega
                clear HNX HNZ hsk
                go_wp2_with (at_builtin; refine wpList_push rfl _ _ rfl (HO.out.own.alloc _) rfl rfl rfl (cells_src wr [48] _ _ rfl) (nn + 1) (by rw [HO.out.len]; rfl) (by omega) ?_)
                intro so8 sc8 w8 hO8
                have HO8 : Hid (Gat w w.heap.size (.slice none 0 0) ((X ++ [cb]).map UInt8.toNat) w8 so8 (nn + 1) sc8) := by
                  rw [List.map_append, List.map_singleton, HCB.out]
                  exact ⟨hO8, by rw [List.length_append, HO.out.len]; rfl⟩
                clear hO8 HO
                go_wp2_with fail
                go_roundw
                case rel => exact ⟨k + 1, nn + 1, sc8, X ++ [cb], so8, false, rfl, rfl, by go_num, HO8, by omega, by omega, HX⟩
                case measure => simp [intOf]; omega
          · have b48 : ((c : Int) == 48) = false := by rw [beq_eq_false_iff_ne]; omega
            have z48 : ¬ (c : Int) = 48 := by omega
            clear HNX HNZ hsk
            cases ld with
            | false =>
              have HX : Hid ((X ++ [cb]) ++ barA false (D.drop (k + 1)) = R) := by
                show _ = R
                rw [← HC2, List.append_assoc]
                rfl
              clear HC2
              go_wp2_with (at_builtin; refine wpList_push rfl _ _ rfl (HO.out.own.alloc _) rfl rfl rfl (cells_src wr [c] _ _ rfl) (nn + 1) (by rw [HO.out.len]; rfl) (by omega) ?_)
              intro so8 sc8 w8 hO8
              have HO8 : Hid (Gat w w.heap.size (.slice none 0 0) ((X ++ [cb]).map UInt8.toNat) w8 so8 (nn + 1) sc8) := by
                rw [List.map_append, List.map_singleton, HCB.out]
                exact ⟨hO8, by rw [List.length_append, HO.out.len]; rfl⟩
              clear hO8 HO
              go_wp2_with fail
              go_roundw
              case rel => exact ⟨k + 1, nn + 1, sc8, X ++ [cb], so8, false, rfl, rfl, by go_num, HO8, by omega, by omega, HX⟩
              case measure => simp [intOf]; omega
            | true =>
              by_cases h45 : c = 45
              · subst h45
                have HX : Hid ((X ++ [cb]) ++ barA true (D.drop (k + 1)) = R) := by
                  show _ = R
                  rw [← HC2, List.append_assoc]
                  rfl
                clear HC2
                go_wp2_with (at_builtin; refine wpList_push rfl _ _ rfl (HO.out.own.alloc _) rfl rfl rfl (cells_src wr [45] _ _ rfl) (nn + 1) (by rw [HO.out.len]; rfl) (by omega) ?_)
                intro so8 sc8 w8 hO8
                have HO8 : Hid (Gat w w.heap.size (.slice none 0 0) ((X ++ [cb]).map UInt8.toNat) w8 so8 (nn + 1) sc8) := by
                  rw [List.map_append, List.map_singleton, HCB.out]
                  exact ⟨hO8, by rw [List.length_append, HO.out.len]; rfl⟩
                clear hO8 HO
                go_wp2_with fail
                go_roundw
                case rel => exact ⟨k + 1, nn + 1, sc8, X ++ [cb], so8, true, rfl, rfl, by go_num, HO8, by omega, by omega, HX⟩
                case measure => simp [intOf]; omega
              · have b45 : ((c : Int) == 45) = false := by rw [beq_eq_false_iff_ne]; omega
                have z45 : ¬ (c : Int) = 45 := by omega
                have HX : Hid ((X ++ [cb]) ++ barA false (D.drop (k + 1)) = R) := by
                  show _ = R
                  rw [← HC2, List.append_assoc, decide_eq_false h45]
                  rfl
                clear HC2
                go_wp2_with (at_builtin; refine wpList_push rfl _ _ rfl (HO.out.own.alloc _) rfl rfl rfl (cells_src wr [c] _ _ rfl) (nn + 1) (by rw [HO.out.len]; rfl) (by omega) ?_)
                intro so8 sc8 w8 hO8
                have HO8 : Hid (Gat w w.heap.size (.slice none 0 0) ((X ++ [cb]).map UInt8.toNat) w8 so8 (nn + 1) sc8) := by
                  rw [List.map_append, List.map_singleton, HCB.out]
                  exact ⟨hO8, by rw [List.length_append, HO.out.len]; rfl⟩
                clear hO8 HO
                go_wp2_with fail
                go_roundw
                case rel => exact ⟨k + 1, nn + 1, sc8, X ++ [cb], so8, false, rfl, rfl, by go_num, HO8, by omega, by omega, HX⟩
                case measure => simp [intOf]; omega
    · have HX : Hid (X = R) := by
        have h := HC.out
        rw [List.drop_of_length_le (by rw [HL.out]; omega)] at h
        show X = R
        simpa [barA] using h
      have HT := HO.out.own.text (fun x hx => by
        obtain ⟨b, _, rfl⟩ := List.mem_map.1 hx
        exact b.toNat_lt) (by
        have := HNE.out
        rw [← HX.out] at this
        simpa using this)
      rw [baOf_map] at HT
      have zk : ¬ (k : Int) < (n : Int) := by omega
      clear HC
      go_wp2_with fail
      go_ret
      rw [← HX.out]
      exact ⟨rfl, fr_none HO.out.own.fr⟩
end Go.Proofs.YtnklmcmdlobicaaGreatDoor
namespace Go.Proofs.YtnklmcmdlobicaaGreatDoor
open Go.RowKit Ieee Go.Shelf

/-- All that the statement reads of variables. -/
structure PTabs (w : World) (M : Nat) : Prop where
  x : XTab w
  o : OTab w
  c : CTab w M
theorem PTabs.fr {w w' : World} {M : Nat} (h : PTabs w M) (hF : Fr noB w w') : PTabs w' M := ⟨h.x.fr hF, h.o.fr hF, h.c.low hF (fun _ _ h => h.elim)⟩
theorem fxT_ne (x p : Nat) (hf : finB x = true) (hp : p ≤ 15) : fxT x p ≠ [] := by
  obtain ⟨f1, f2, f3, f4, f5⟩ := wX_facts x p hf (by omega)
  rw [fxT_parts]
  intro h
  have h2 := (List.append_eq_nil_iff.1 h).2
  unfold bodyX at h2
  split at h2
  · rw [h2] at f3; simp at f3
  · exact absurd h2 (by simp)
set_option maxRecDepth 100000 in
set_option maxHeartbeats 4000000 in
theorem plain_walk (x : Nat) (hx : x < 18446744073709551616) (l p : Int) (M : Nat) (w : World) (hT : PTabs w M) :
    Calls Tryz.prog 4 #[.int .u64 (x : Int), .int .i64 l, .int .i64 p] w fun e w' => e = .returned (.bool true) ∧ Below w.heap.size w w' := by
  have r1 : ∀ W, _ := run_from x
  have HB : Hid (∀ W, Fr noB w W → Calls Tryz.prog 10 #[] W fun e w' => e = .returned (.bool true) ∧ Fr noB W w') := fun W h => begun_true M W (hT.fr h).x (hT.fr h).o (hT.fr h).c
  by_cases hr : 1 ≤ l ∧ l ≤ 20 ∧ 0 ≤ p ∧ p ≤ 15
  · obtain ⟨g1, g2, g3, g4⟩ := hr
    cases hf : finB x with
    | false =>
      have z1 : ¬ l < 1 := by omega
      have z2 : ¬ 20 < l := by omega
      have z3 : ¬ p < 0 := by omega
      have z4 : ¬ 15 < p := by omega
      have hnq : ((none : Option Ordering) != some .eq) = true := by decide
      have HF : Hid (∀ W, Fr noB w W → ∃ b, (binOp .sub 25 (.float .f64 x) (.float .f64 x)).run Tryz.prog W = .ok (.float .f64 b) W.drew ∧ FloatKind.f64.format.order b 0 = none ∧ Fr noB w W.drew) := by
        intro W hW
        obtain ⟨b, hb1, hb2⟩ := run_sub_nan hf W
        exact ⟨b, hb1, hb2, hW.drewN 1⟩
      clear hT hf
      go_enter Tryz.func4, Tryz.ntmps4
      go_wp2_with (go_at_call 10; first
        | (with_reducible refine (HB.out _ (Fr.refl _ _)).mono ?_; rintro e w1 ⟨rfl, hF1⟩; obtain ⟨b, hb1, hb2, hFd⟩ := HF.out w1 hF1)
        | (with_reducible refine (HB.out _ hFd).mono ?_; rintro e w2 ⟨rfl, hG2⟩; have hF2 := hFd.trans hG2))
      go_ret
      exact ⟨rfl, Fr.below (S := noB) hF2 (Nat.le_refl _) (fun _ h => h.elim)⟩
    | true =>
      obtain ⟨L, rfl⟩ : ∃ L : Nat, l = (L : Int) := ⟨l.toNat, by omega⟩
      obtain ⟨P, rfl⟩ : ∃ P : Nat, p = (P : Int) := ⟨p.toNat, by omega⟩
      have HN1 : Hid (∀ W, Fr noB w W → Calls Tryz.prog 6 #[.float .f64 x, .int .i64 (L : Int), .int .i64 (P : Int), .bool true] W fun e w' => e = .returned (.tuple #[.string (baL (numX x L P true)), .int .i64 0]) ∧ Fr noB W w') := fun W h => number_fin x L P M true W hx hf (by omega) (by omega) (hT.fr h).x (hT.fr h).o (hT.fr h).c
      have HN2 : Hid (∀ W, Fr noB w W → Calls Tryz.prog 6 #[.float .f64 x, .int .i64 1, .int .i64 (P : Int), .bool false] W fun e w' => e = .returned (.tuple #[.string (baL (fxT x P)), .int .i64 0]) ∧ Fr noB W w') := by
        intro W h
        have h2 := number_fin x 1 P M false W hx hf (by omega) (by omega) (hT.fr h).x (hT.fr h).o (hT.fr h).c
        rw [plain_num x P hf (by omega)] at h2
        exact h2
      have HFX : Hid (∀ W, Fr noB w W → Calls Tryz.prog 11 #[.float .f64 x, .int .i64 (P : Int)] W fun e w' => e = .returned (.tuple #[.string (baL (fxT x P)), .int .i64 0]) ∧ Fr noB W w') := fun W h => rfixed_fin x P M W hx hf (by omega) (hT.fr h).o (hT.fr h).c
      have HBA : Hid (∀ W, Calls Tryz.prog 12 #[.string (baL (numX x L P true))] W fun e w' => e = .returned (.string (baL (fxT x P))) ∧ Fr noB W w') := by
        intro W
        have e := bare_num x L P hf (by omega) (by omega)
        have h2 := bare_any (numX x L P true) (numX_len x L P true hf (by omega) (by omega)) (by rw [e]; exact fxT_ne x P hf (by omega)) W
        rw [e] at h2
        exact h2
      have h1 := run_sub_fin (fin_of hf)
      have h2 : FloatKind.f64.format.order 0 0 = some .eq := order_zz
      generalize baL (numX x L P true) = S1 at *
      generalize baL (fxT x P) = S2 at *
      have z1 : ¬ (L : Int) < 1 := by omega
      have z2 : ¬ 20 < (L : Int) := by omega
      have z3 : ¬ (P : Int) < 0 := by omega
      have z4 : ¬ 15 < (P : Int) := by omega
      clear hT hf
      go_enter Tryz.func4, Tryz.ntmps4
      go_wp2_with (first
        | (go_at_call 10; with_reducible refine (HB.out _ (Fr.refl _ _)).mono ?_; rintro e w1 ⟨rfl, hF1⟩)
        | (go_at_call 6; with_reducible refine (HN1.out _ hF1).mono ?_; rintro e w2 ⟨rfl, hG2⟩; have hF2 := hF1.trans hG2)
        | (go_at_call 6; with_reducible refine (HN2.out _ hF2).mono ?_; rintro e w3 ⟨rfl, hG3⟩; have hF3 := hF2.trans hG3)
        | (go_at_call 11; with_reducible refine (HFX.out _ hF3).mono ?_; rintro e w4 ⟨rfl, hG4⟩; have hF4 := hF3.trans hG4)
        | (go_at_call 12; with_reducible refine (HBA.out _).mono ?_; rintro e w5 ⟨rfl, hG5⟩; have hF5 := hF4.trans hG5))
      go_ret
      exact ⟨rfl, Fr.below (S := noB) hF5 (Nat.le_refl _) (fun _ h => h.elim)⟩
  · clear hT
    by_cases c1 : l < 1
    · clear hr
      go_enter Tryz.func4, Tryz.ntmps4
      go_wp2_with (go_at_call 10; first
        | (with_reducible refine (HB.out _ (Fr.refl _ _)).mono ?_; rintro e w1 ⟨rfl, hF1⟩)
        | (with_reducible refine (HB.out _ hF1).mono ?_; rintro e w2 ⟨rfl, hG2⟩; have hF2 := hF1.trans hG2))
      go_ret
      exact ⟨rfl, Fr.below (S := noB) hF2 (Nat.le_refl _) (fun _ h => h.elim)⟩
    · by_cases c2 : 20 < l
      · clear hr
        go_enter Tryz.func4, Tryz.ntmps4
        go_wp2_with (go_at_call 10; first
          | (with_reducible refine (HB.out _ (Fr.refl _ _)).mono ?_; rintro e w1 ⟨rfl, hF1⟩)
          | (with_reducible refine (HB.out _ hF1).mono ?_; rintro e w2 ⟨rfl, hG2⟩; have hF2 := hF1.trans hG2))
        go_ret
        exact ⟨rfl, Fr.below (S := noB) hF2 (Nat.le_refl _) (fun _ h => h.elim)⟩
      · by_cases c3 : p < 0
        · clear hr
          go_enter Tryz.func4, Tryz.ntmps4
          go_wp2_with (go_at_call 10; first
            | (with_reducible refine (HB.out _ (Fr.refl _ _)).mono ?_; rintro e w1 ⟨rfl, hF1⟩)
            | (with_reducible refine (HB.out _ hF1).mono ?_; rintro e w2 ⟨rfl, hG2⟩; have hF2 := hF1.trans hG2))
          go_ret
          exact ⟨rfl, Fr.below (S := noB) hF2 (Nat.le_refl _) (fun _ h => h.elim)⟩
        · have c4 : 15 < p := by omega
          clear hr
          go_enter Tryz.func4, Tryz.ntmps4
          go_wp2_with (go_at_call 10; first
            | (with_reducible refine (HB.out _ (Fr.refl _ _)).mono ?_; rintro e w1 ⟨rfl, hF1⟩)
            | (with_reducible refine (HB.out _ hF1).mono ?_; rintro e w2 ⟨rfl, hG2⟩; have hF2 := hF1.trans hG2))
          go_ret
          exact ⟨rfl, Fr.below (S := noB) hF2 (Nat.le_refl _) (fun _ h => h.elim)⟩
end Go.Proofs.YtnklmcmdlobicaaGreatDoor
namespace Go.Proofs.YtnklmcmdlobicaaGreatDoor.numfmtPlain
open Go.ChangeShapes Go.WideShapes Go.ChangeAt Go.RowKit Go.ChangeMaps

set_option maxRecDepth 100000 in
theorem contract (H : Type) (enc : TypeId × Value → H) (W : World) (base : Nat) (args : Array Value) (ds gs : List (DataW H)) (before : List MemPlace)
    (hval : ∀ (j : Nat) t v, Tryz.f4.params[j]? = some t → args[j]? = some v → Value.okWide Tryz.prog W .any base t v)
    (hW : DataW.Whole enc Tryz.prog Tryz.f4.params.toList Rows.numfmtPlainSpec.vars false W args.toList ds gs before)
    (hsz : (DataW.weightsEach Tryz.prog (Tryz.f4.params.toList ++ Rows.numfmtPlainSpec.plain.varTypes Tryz.prog) (ds ++ gs)).all (· ≤ reachBytes) = true) (hT : FTabs W W.heap.size) :
    Calls Tryz.prog 4 args W fun e W' => ∃ v, e = .returned v ∧ Rows.numfmtPlainSpec.post enc Tryz.prog Tryz.f4 false true false false W args v W' := by
  have hW' := hW
  obtain ⟨p, q, hA0, hV, rfl, hfz, hnd⟩ := hW
  have hA : DataW.TrodAll enc Tryz.prog W 0 (fun _ => true) true Tryz.f4.params.toList args.toList ds p := hA0
  rw [Tryz.params4] at hA hval hsz
  obtain ⟨v0, vs0, d0, ds0, p0, q0, hargs, rfl, rfl, h0, r0⟩ := trodAll_cons hA
  obtain ⟨v1, vs1, d1, ds1, p1, q1, rfl, rfl, rfl, h1, r1⟩ := trodAll_cons r0
  obtain ⟨v2, vs2, d2, ds2, p2, q2, rfl, rfl, rfl, h2, r2⟩ := trodAll_cons r1
  obtain ⟨rfl, rfl, rfl⟩ := trodAll_nil r2
  obtain rfl : args = #[v0, v1, v2] := by cases args; simp_all
  obtain ⟨rfl, rfl⟩ := trodVars_none hV
  obtain ⟨a0, rfl, rfl, rfl, w0⟩ := open_int Tryz.underlying22 (hval 0 22 v0 rfl rfl) h0
  have hb0 : 0 ≤ a0 ∧ a0 ≤ 18446744073709551615 := by simpa [Lit.wf, show IntKind.u64.min = 0 from rfl, show IntKind.u64.max = 18446744073709551615 from rfl] using w0
  obtain ⟨n0, rfl⟩ : ∃ n : Nat, a0 = (n : Int) := ⟨a0.toNat, by omega⟩
  obtain ⟨a1, rfl, rfl, rfl, w1⟩ := open_int Tryz.underlying3 (hval 1 3 v1 rfl rfl) h1
  obtain ⟨a2, rfl, rfl, rfl, w2⟩ := open_int Tryz.underlying3 (hval 2 3 v2 rfl rfl) h2
  clear hA0 hsz
  try simp only [List.append_nil] at hW'
  refine (plain_walk n0 (by omega) a1 a2 W.heap.size W ⟨hT.x, hT.o, hT.c⟩).mono fun e W' ⟨he, bel⟩ => ?_
  subst he
  exact ⟨_, rfl, _, _, _, [], _, [], hW', trodAll_mk1 (shut_bool Tryz.underlying4 _), (trodAll_cons_mk (shut_int Tryz.underlying22 w0) (trodAll_cons_mk (shut_int Tryz.underlying3 w1) (trodAll_cons_mk (shut_int Tryz.underlying3 w2) trodAll_mk0))), rfl, bel.frame _, fun h => by cases h⟩

theorem reads (os : Os) {H : Type} (enc : TypeId × Value → H) : ∃ places, DataW.whole enc Tryz.prog ((laidWorld os).forCall (fun _ _ => 0) ⟨#[], #[.int .u64 0, .int .i64 0, .int .i64 0], []⟩).memory Tryz.f4.params.toList Rows.numfmtPlainSpec.vars false (#[.int .u64 0, .int .i64 0, .int .i64 0] : Array Value).toList 8 = some ([.lit (.int .u64 0), .lit (.int .i64 0), .lit (.int .i64 0)], [], places) :=
  ⟨[], by kernel_rfl⟩

theorem okIn (os : Os) : Input.okWideB Tryz.prog ((laidWorld os).forCall (fun _ _ => 0) ⟨#[], #[.int .u64 0, .int .i64 0, .int .i64 0], []⟩) 4 ⟨#[], #[.int .u64 0, .int .i64 0, .int .i64 0], []⟩ = true := by kernel_rfl
theorem sized (os : Os) {H : Type} (enc : TypeId × Value → H) : (OpenSpec.ofChange Rows.numfmtPlainSpec).bare.sizedB enc Tryz.prog Tryz.f4 false ((laidWorld os).forCall (fun _ _ => 0) ⟨#[], #[.int .u64 0, .int .i64 0, .int .i64 0], []⟩).memory #[.int .u64 0, .int .i64 0, .int .i64 0] 8 = true := by kernel_rfl

theorem pre0 (os : Os) {H : Type} (enc : TypeId × Value → H) : (OpenSpec.ofChange Rows.numfmtPlainSpec).preRow enc Tryz.prog Tryz.f4 Rows.numfmtPlainRow.domain false Rows.numfmtPlainRow.laid ((laidWorld os).forCall (fun _ _ => 0) ⟨#[], #[.int .u64 0, .int .i64 0, .int .i64 0], []⟩).memory #[.int .u64 0, .int .i64 0, .int .i64 0] := by
  obtain ⟨places, hx⟩ := reads os enc
  exact OpenSpec.preRow_of_cond 8 hx (by kernel_rfl) (fun k hk => by cases hk) (sized os enc) (laid_met0 os _)

set_option maxRecDepth 100000 in
theorem lifted (os : Os) (started : os.Started) (H : Type) (enc : TypeId × Value → H) (F : Stop.Interp) :
    ReturnsInHanded {} Tryz.checked os 4 .any ((OpenSpec.ofChange Rows.numfmtPlainSpec).preRow enc Tryz.prog Tryz.f4 Rows.numfmtPlainRow.domain false Rows.numfmtPlainRow.laid) (((OpenSpec.ofChange Rows.numfmtPlainSpec).at F).post enc Tryz.prog Tryz.f4 false true false false) := by
  refine returnsInHanded_of_row (C := Tryz.checked) (s := OpenSpec.ofChange Rows.numfmtPlainSpec) own started (by kernel_rfl) Tryz.func4 (witness_laid false #[.int .u64 0, .int .i64 0, .int .i64 0] (okIn os) (pre0 os enc)) ?_
  intro W base args ds gs before hval hW _ _ hsz hlaid hopen _
  exact contract H enc W base args ds gs before hval hW hsz (tabs_of hlaid hopen)

theorem said : Rows.NumfmtPlainSaid :=
  OpenClaim.holds_of_cond 4 Tryz.f4 rfl rfl rfl rfl rfl rfl rfl ⟨rfl, rfl, rfl, rfl, rfl⟩ rfl rfl rfl rfl rfl (by kernel_rfl) Tryz.func4 (by kernel_rfl)
    (of_decide_eq_true (by kernel_rfl)) (by unfold Func.isWrapper; first | (rw [if_pos (by decide +kernel)]; kernel_rfl) | (rw [if_neg (by decide +kernel)]; exact ⟨rfl, rfl⟩))
    (fun os started H enc _ F => by rw [OpenClaim.pre_eq_preRow]; exact lifted os started H enc F)

theorem plain (f : FuncId) (fn : Func) (hf : Tryz.pinned.checked.prog.funcNamed "gridiron/gridironlaw10.NumfmtPlain" = some f) (hfn : Tryz.pinned.checked.prog.funcs[f]? = some fn) :
    true = Tryz.pinned.checked.prog.looks [] ∧ ∀ (j : Nat) t, fn.params[j]? = some t → Tryz.pinned.checked.prog.wantsStandIn t = false := by
  obtain rfl : f = 4 := Option.some.inj ((show Tryz.prog.funcNamed "gridiron/gridironlaw10.NumfmtPlain" = some 4 by kernel_rfl).symm.trans hf) |>.symm
  obtain rfl : fn = Tryz.f4 := (Option.some.inj (Tryz.func4.symm.trans hfn)).symm
  refine ⟨by kernel_rfl, fun j t ht => ?_⟩
  rw [Tryz.params4] at ht
  have hm := Array.mem_of_getElem? ht
  simp at hm
  rcases hm with rfl | rfl
  · exact (show Tryz.prog.wantsStandIn 22 = false by kernel_rfl)
  · exact (show Tryz.prog.wantsStandIn 3 = false by kernel_rfl)

theorem card : Rows.NumfmtPlainCardSaid :=
  Claim7.holds_tied_plain_at .later [] _ _ _ _ said (fun _ h => by cases h) (by kernel_rfl) (fun _ h => by cases h) numfmtPlain_row_tie rfl ⟨rfl, rfl⟩ (by kernel_rfl) rfl plain (by kernel_rfl)
end Go.Proofs.YtnklmcmdlobicaaGreatDoor.numfmtPlain
namespace Go.Proofs.YtnklmcmdlobicaaGreatDoor
theorem numfmtPlain_holds : Rows.NumfmtPlainCardSaid := numfmtPlain.card
#print axioms numfmtPlain_holds
end Go.Proofs.YtnklmcmdlobicaaGreatDoor
