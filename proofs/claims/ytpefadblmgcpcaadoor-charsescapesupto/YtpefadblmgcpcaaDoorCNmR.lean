/- Names and names with a prefix: the document's side, and the program's Split. -/
import Derived.Test.YtpefadblmgcpcaaDoorCDec
import Derived.Test.YtpefadblmgcpcaaDoorCTxt
import Derived.Test.YtpefadblmgcpcaaDoorCCut
namespace Go.Proofs.YtpefadblmgcpcaaDoor
open Go.RowKit Go.Shelf

theorem own_cells {base e n : Nat} {so : Option Addr} {sc : Nat} {xs : List Value} {w : World} (h : w.ownsRow base e 1 (.slice so n sc) n xs) (h0 : 0 < n) : ∃ g, so = some ⟨g, 0, none⟩ ∧ base ≤ g ∧ ∀ j u, xs[j]? = some u → w.cell? ⟨g, j, none⟩ = some u := by
  rcases h.2 with ⟨hv, hz⟩ | ⟨g, cap, cur, hv, hb, _⟩
  · omega
  · cases hv
    refine ⟨g, rfl, hb, fun j u hj => ?_⟩
    have := h.cells (g := g) rfl j u hj
    rwa [add_none, Nat.zero_add] at this
theorem nV_get (k : IntKind) (D : List Nat) (i : Nat) (h : i < D.length) : (nV k D)[i]? = some (.int k ((D[i] : Nat) : Int)) := by simp [nV, h]

/-- The first one may begin a name. -/
def stF (R : List Nat) : Nat → Bool
  | 0 => match R with
    | [] => true
    | r :: _ => startF (r : Int)
  | _ + 1 => true
theorem nameL_tail (l : List (Nat × Nat × Nat)) (h : ∀ x ∈ l, 1 ≤ x.1) : nameL l = (runeL l).all fun r => nmcF (r : Int) := by
  unfold nameL runeL
  rw [List.all_map]
  apply Bool.eq_iff_iff.2
  simp only [List.all_eq_true]
  constructor
  · intro h2 x hx
    have := h2 x hx
    have h3 := h x hx
    simp only [Bool.and_eq_true] at this
    exact this.2
  · intro h2 x hx
    have := h2 x hx
    have h3 := h x hx
    simp only [Bool.and_eq_true, Bool.or_eq_true, bne_iff_ne]
    exact ⟨Or.inl (by omega), this⟩
theorem nameL_runs (s : ByteArray) : nameL (runs s 0) = (stF (runeL (runs s 0)) 0 && (runeL (runs s 0)).all fun r => nmcF (r : Int)) := by
  by_cases h : 0 < s.size
  · have hw := width_pos s 0 h
    have ht := nameL_tail (runs s (0 + (Utf8.decode s 0).2)) (fun x hx => by have := (runs_ge s s.size (0 + (Utf8.decode s 0).2) (by omega) x hx).1; omega)
    rw [runs_step s 0 h]
    show ((((0 : Nat) != 0) || startF ((Utf8.decode s 0).1 : Int)) && nmcF ((Utf8.decode s 0).1 : Int) && nameL (runs s (0 + (Utf8.decode s 0).2))) = _
    rw [ht]
    simp only [runeL, List.map_cons, List.all_cons, stF]
    simp [Bool.and_assoc]
  · rw [runs_end s 0 h]; rfl

set_option maxRecDepth 100000 in
set_option maxHeartbeats 2000000 in
theorem rname_any (s : ByteArray) (w : World) (hs : s.size ≤ 1048576) (hT : Tabs w) : Calls Tryd.prog 14 #[.string s] w fun e w' => e = .returned (.bool (nameF s)) ∧ Fr noB w w' := by
  have HV := rvalid_any s w hs hT
  have HT : Hid (Tabs w) := hT
  clear hT
  obtain ⟨⟨va, vo⟩, hv⟩ : ∃ d, validF s = d := ⟨_, rfl⟩
  rw [hv] at HV
  simp only at HV
  cases vo with
  | false =>
    have HN : Hid (nameF s = false) := by show nameF s = false; unfold nameF; rw [hv]; rfl
    clear hv
    go_enter Tryd.func14, Tryd.ntmps14
    go_wp2_with (go_at_call 9; refine HV.mono ?_; rintro e w1 ⟨rfl, hF⟩)
    go_ret
    exact ⟨ret_bool HN.out.symm, hF⟩
  | true =>
    have hsb := some_bytes s
    by_cases h0 : s.size = 0
    · have HN : Hid (nameF s = false) := by show nameF s = false; unfold nameF; rw [h0]; simp
      have hemp : s.toList.isEmpty = true := by rw [h0] at hsb; simpa using hsb
      clear hv hsb
      go_enter Tryd.func14, Tryd.ntmps14
      go_wp2_with (go_at_call 9; refine HV.mono ?_; rintro e w1 ⟨rfl, hF⟩)
      go_ret
      exact ⟨ret_bool HN.out.symm, hF⟩
    · have hemp : s.toList.isEmpty = false := by
        have : (s.size != 0) = true := by simpa using h0
        rw [this] at hsb
        simpa using hsb
      have HN : Hid (nameF s = (stF (runeL (runs s 0)) 0 && (runeL (runs s 0)).all fun r => nmcF (r : Int))) := by
        show nameF s = _
        unfold nameF
        rw [hv, nameL_runs]
        simp [h0]
      have HRR := fun w => rrunes_any s w hs
      have hRl : (runeL (runs s 0)).length ≤ 1048576 := by
        have := runs_len s s.size 0 (by omega)
        simp [runeL]
        omega
      generalize runeL (runs s 0) = R at *
      clear hv hsb h0
      go_enter Tryd.func14, Tryd.ntmps14
      go_wp2_with (first | (go_at_call 9; refine HV.mono ?_; rintro e w1 ⟨rfl, hF⟩) | (go_at_call 29; refine (HRR _ (HT.out.keep hF)).mono ?_; rintro e w2 ⟨so, sc, rfl, hO, hF2⟩))
      clear HV HRR
      have HO : Hid _ := hO
      have hFw : Fr noB w w2 := hF.trans hF2
      clear hO hF hF2 hemp
      go_loopw [6] (fun iv wr => ∃ k : Nat, k ≤ R.length ∧ iv = .int .i64 (k : Int) ∧ Fr noB w2 wr ∧ Hid (nameF s = (stF R k && (R.drop k).all fun r => nmcF (r : Int)))) (fun iv _ => R.length - (intOf iv).toNat)
      case atStart => exact ⟨0, Nat.zero_le _, rfl, Fr.refl _ _, HN⟩
      case round =>
        clear HN
        obtain ⟨k, hk, rfl, hFr, HC⟩ := hrel
        by_cases hlt : k < R.length
        · obtain ⟨g, rfl, _, hcell⟩ := own_cells HO.out (by omega)
          have hc := (hFr.cell (lt_of_cell (hcell k _ (nV_get .i32 R k hlt))) id).trans (hcell k _ (nV_get .i32 R k hlt))
          have HC2 := HC.out
          rw [List.drop_eq_getElem_cons hlt, List.all_cons] at HC2
          have hst0 : k = 0 → stF R 0 = startF ((R[k] : Nat) : Int) := by
            intro e; subst e
            cases R with
            | nil => simp at hlt
            | cons a t => rfl
          obtain ⟨x, hx⟩ : ∃ x, R[k] = x := ⟨_, rfl⟩
          rw [hx] at hc HC2 hst0
          have HM := rnmc_any (x : Int)
          have HS := rstart_any (x : Int)
          clear hx hcell HC
          cases hm : nmcF (x : Int) with
          | false =>
            have HX : Hid (nameF s = false) := by show nameF s = false; rw [HC2, hm]; simp
            rw [hm] at HM
            clear HC2 hm hst0
            go_wp2_with (go_at_call 40; refine (HM _).mono ?_; rintro e w3 ⟨rfl, hF3⟩)
            go_ret
            exact ⟨ret_bool HX.out.symm, (hFw.trans hFr).trans hF3⟩
          | true =>
            rw [hm] at HM HC2
            by_cases h0 : k = 0
            · subst h0
              rw [hst0 rfl] at HC2
              cases hst : startF (x : Int) with
              | false =>
                have HX : Hid (nameF s = false) := by show nameF s = false; rw [HC2, hst]; rfl
                rw [hst] at HS
                have HCK : Hid (∀ wz, Fr noB wr wz → wz.cell? ⟨g, 0, none⟩ = some (.int .i32 (x : Int))) := fun wz hz => (hz.cell (lt_of_cell hc) id).trans hc
                clear HC2 hm hst hst0
                go_wp2_with (first | (go_at_call 40; refine (HM _).mono ?_; rintro e w3 ⟨rfl, hF3⟩; have hc3 := HCK.out _ hF3) | (go_at_call 41; refine (HS _).mono ?_; rintro e w4 ⟨rfl, hF4⟩))
                go_ret
                exact ⟨ret_bool HX.out.symm, ((hFw.trans hFr).trans hF3).trans hF4⟩
              | true =>
                have HX : Hid (nameF s = (stF R 1 && (R.drop 1).all fun r => nmcF (r : Int))) := by show nameF s = _; rw [HC2, hst]; rfl
                rw [hst] at HS
                have HCK : Hid (∀ wz, Fr noB wr wz → wz.cell? ⟨g, 0, none⟩ = some (.int .i32 (x : Int))) := fun wz hz => (hz.cell (lt_of_cell hc) id).trans hc
                clear HC2 hm hst hst0
                go_wp2_with (first | (go_at_call 40; refine (HM _).mono ?_; rintro e w3 ⟨rfl, hF3⟩; have hc3 := HCK.out _ hF3) | (go_at_call 41; refine (HS _).mono ?_; rintro e w4 ⟨rfl, hF4⟩))
                go_roundw
                case rel => exact ⟨1, by omega, by go_num, (hFr.trans hF3).trans hF4, HX⟩
                case measure => simp [intOf]; omega
            · have h0' : ¬ (k : Int) = 0 := by omega
              have HX : Hid (nameF s = (stF R (k + 1) && (R.drop (k + 1)).all fun r => nmcF (r : Int))) := by
                show nameF s = _
                rw [HC2]
                obtain ⟨j, rfl⟩ : ∃ j, k = j + 1 := ⟨k - 1, by omega⟩
                simp [stF]
              clear HC2 hm hst0
              go_wp2_with (go_at_call 40; refine (HM _).mono ?_; rintro e w3 ⟨rfl, hF3⟩)
              go_roundw
              case rel => exact ⟨k + 1, by omega, by go_num, hFr.trans hF3, HX⟩
              case measure => simp [intOf]; omega
        · have HX : Hid (nameF s = true) := by
            show nameF s = true
            rw [HC.out, List.drop_eq_nil_of_le (by omega)]
            cases k with
            | zero =>
              have : R = [] := List.eq_nil_of_length_eq_zero (by omega)
              subst this
              rfl
            | succ k => rfl
          clear HC
          go_wp2
          go_ret
          exact ⟨ret_bool HX.out.symm, hFw.trans hFr⟩
#print axioms rname_any
end Go.Proofs.YtpefadblmgcpcaaDoor
