/- The contract of zip.Name, at every text. -/
import Derived.Test.YtlhikoomghbnjaaGreatDoorZBas
import Derived.Test.YtlhikoomghbnjaaGreatDoorShelf
namespace Go.Proofs.YtlhikoomghbnjaaGreatDoor
open Go.RowKit Go.Shelf

/-- The tables that are read, as they are laid; and that MaxLen is a number. -/
structure Tabs (w : World) : Prop where
  u8 : Lib.Utf8Tabs (Tryz.laysValid_ren.g 3) (Tryz.laysValid_ren.g 4) w
  mx : ∃ m, w.cell? ⟨Tryz.lays146_ren.g 1, 0, none⟩ = some (.int .i64 m)
theorem lt_of_cell {w : World} {a : Addr} {v : Value} (h : w.cell? a = some v) : a.block < w.heap.size := by
  rcases Nat.lt_or_ge a.block w.heap.size with h' | h'
  · exact h'
  · simp [World.cell?, Array.getElem?_eq_none h'] at h
theorem Tabs.fr {S : Nat → Prop} {w w' : World} (h : Tabs w) (hF : Fr S w w') (hs : ∀ k, k < 4 → ¬ S k) : Tabs w' := by
  refine ⟨⟨fun c hc => ?_, fun i hi => ⟨?_, ?_⟩⟩, ?_⟩
  · have := h.u8.1 c hc
    rw [← this]
    exact hF.cell (lt_of_cell this) (hs _ (show Tryz.laysValid_ren.g 3 < 4 by decide))
  · have := (h.u8.2 i hi).1
    rw [← this]
    exact hF.cell (lt_of_cell this) (hs _ (show Tryz.laysValid_ren.g 4 < 4 by decide))
  · have := (h.u8.2 i hi).2
    rw [← this]
    exact hF.cell (lt_of_cell this) (hs _ (show Tryz.laysValid_ren.g 4 < 4 by decide))
  · obtain ⟨m, hm⟩ := h.mx
    exact ⟨m, (hF.cell (lt_of_cell hm) (hs _ (show Tryz.lays146_ren.g 1 < 4 by decide))).trans hm⟩
theorem Tabs.keep {w w' : World} (h : Tabs w) (hF : Fr noB w w') : Tabs w' := h.fr hF (fun _ _ => id)

/-- May a byte stand in a name? -/
def nbOK (c : Nat) : Bool := decide (32 ≤ c) && decide (c ≠ 127) && decide (c ≠ 92) && decide (c ≠ 58)
/-- Does a part lead to another folder? -/
def climbB (p : ByteArray) : Bool := p.toList == [46] || p.toList == [46, 46]
/-- The parts of a name. -/
def partsB (s : ByteArray) : List ByteArray := Lib.splitB ⟨#[47]⟩ 0 (Lib.countB s ⟨#[47]⟩) s
theorem partsB_length (s : ByteArray) : (partsB s).length = Lib.countB s ⟨#[47]⟩ + 1 := Lib.splitB_all ⟨#[47]⟩ (by decide) 0 _ s rfl
/-- May an entry have a name? -/
def nameF (s : ByteArray) : Bool :=
  decide (1 ≤ s.size ∧ s.size ≤ 1024) && Lib.validD s.data.toList && (s.data.toList.all fun b => nbOK b.toNat) &&
    ((partsB s).dropLast.all fun p => !(p.toList == [] || climbB p)) && !climbB ((partsB s).getLastD ⟨#[]⟩)

set_option maxRecDepth 100000 in
theorem nameByte_any (c : Nat) (w : World) : Calls Tryz.prog 19 #[.int .u8 (c : Int)] w fun e w' => e = .returned (.bool (nbOK c)) ∧ w' = w := by
  go_enter Tryz.func19, Tryz.ntmps19
  go_wp2_with fail
  all_goals
    go_ret
    exact ⟨ret_bool (by unfold nbOK; rw [Bool.eq_iff_iff]; simp; omega), rfl⟩
set_option maxRecDepth 100000 in
theorem climbs_any (p : ByteArray) (w : World) : Calls Tryz.prog 21 #[.string p] w fun e w' => e = .returned (.bool (climbB p)) ∧ w' = w := by
  go_enter Tryz.func21, Tryz.ntmps21
  go_wp2_with fail
  · go_ret
    rename_i h
    exact ⟨ret_bool (by simp [climbB, h]), rfl⟩
  · go_ret
    exact ⟨rfl, rfl⟩

theorem valid_any (s : ByteArray) (w : World) (hs : s.size ≤ 9223372036854775807) (hT : Tabs w) :
    Calls Tryz.prog 18 #[.string s] w fun e w' => e = .returned (.bool (Lib.validD s.data.toList)) ∧ Fr noB w w' := by
  refine (show Calls Tryz.prog 18 #[.string s] w _ from Any.utf8_ValidString Tryz.laysValid s w hs hT.u8).mono ?_
  rintro e w' ⟨h1, h2⟩
  exact ⟨h1, Fr.ofBelow h2⟩
theorem split_any (s : ByteArray) (w : World) (hs : s.size < 4294967281) (hT : Tabs w) :
    Calls Tryz.prog 20 #[.string s, .string ⟨#[47]⟩] w fun e w' => e = .returned (.slice (some ⟨w.heap.size, 0, none⟩) (partsB s).length (partsB s).length) ∧ w' = w.alloc (.cells ((partsB s).map Value.string).toArray 9) := by
  obtain ⟨m, hm⟩ := hT.mx
  rw [partsB_length]
  exact Any.strings_Split { Tryz.lays146 with } Tryz.lays146.i9 s ⟨#[47]⟩ m w hs hm (by decide)

set_option maxRecDepth 100000 in
set_option maxHeartbeats 1600000 in
theorem name_any (s : ByteArray) (w : World) (hs : s.size ≤ 140737488355328) (hT : Tabs w) :
    Calls Tryz.prog 9 #[.string s] w fun e w' => e = .returned (.bool (nameF s)) ∧ Fr noB w w' := by
  have HT : Hid (Tabs w) := hT
  by_cases h1 : s.size < 1
  · have e : nameF s = false := by unfold nameF; rw [decide_eq_false (by omega)]; simp
    rw [e]
    go_enter Tryz.func9, Tryz.ntmps9
    go_wp2_with fail
    go_ret
    exact ⟨rfl, Fr.refl _ _⟩
  · by_cases h2 : 1024 < s.size
    · have e : nameF s = false := by unfold nameF; rw [decide_eq_false (by omega)]; simp
      rw [e]
      go_enter Tryz.func9, Tryz.ntmps9
      go_wp2_with fail
      go_ret
      exact ⟨rfl, Fr.refl _ _⟩
    · have HV := valid_any s w (by omega) hT
      have hsz : decide (1 ≤ s.size ∧ s.size ≤ 1024) = true := decide_eq_true (by omega)
      have HN : Hid (nameF s = (Lib.validD s.data.toList && (s.data.toList.all fun b => nbOK b.toNat) && ((partsB s).dropLast.all fun p => !(p.toList == [] || climbB p)) && !climbB ((partsB s).getLastD ⟨#[]⟩))) := by
        show nameF s = _
        unfold nameF
        rw [hsz, Bool.true_and]
      clear hsz hT
      cases hv : Lib.validD s.data.toList with
      | false =>
        rw [hv] at HV
        have e : nameF s = false := by rw [HN.out, hv]; simp
        rw [e]
        clear hv HN
        go_enter Tryz.func9, Tryz.ntmps9
        go_wp2_with (go_at_call 18; refine HV.mono ?_; rintro e w1 ⟨rfl, hF⟩)
        go_ret
        exact ⟨rfl, hF⟩
      | true =>
        rw [hv] at HV
        have HVV : Hid (Lib.validD s.data.toList = true) := hv
        clear hv
        go_enter Tryz.func9, Tryz.ntmps9
        go_wp2_with (go_at_call 18; refine HV.mono ?_; rintro e w1 ⟨rfl, hF⟩)
        clear HV
        go_loop [23] (fun i => ∃ k : Nat, k ≤ s.size ∧ i = .int .i64 (k : Int) ∧ ∀ j (hj : j < s.size), j < k → nbOK s[j].toNat = true) (fun i => s.size - (intOf i).toNat)
        case atStart => exact ⟨0, Nat.zero_le _, rfl, fun j _ h => absurd h (Nat.not_lt_zero _)⟩
        case round =>
          obtain ⟨k, hk, rfl, hall⟩ := hrel
          have HA : Hid _ := hall
          clear hall
          by_cases hlt : k < s.size
          · have HB := nameByte_any s[k].toNat w1
            cases hb : nbOK s[k].toNat with
            | true =>
              rw [hb] at HB
              have HA2 : Hid (∀ j (hj : j < s.size), j < k + 1 → nbOK s[j].toNat = true) := fun j hj h => by
                rcases Nat.lt_or_ge j k with h' | h'
                · exact HA.out j hj h'
                · have : j = k := by omega
                  subst this
                  exact hb
              clear hb
              go_wp2_with (go_at_call 19; refine HB.mono ?_; rintro e w2 ⟨rfl, rfl⟩)
              refine ⟨⟨k + 1, by omega, rfl, HA2.out⟩, ?_⟩
              simp [intOf]
              omega
            | false =>
              rw [hb] at HB
              have hf : nameF s = false := by
                rw [HN.out]
                have : (s.data.toList.all fun b => nbOK b.toNat) = false := by
                  rw [List.all_eq_false]
                  refine ⟨s[k], ?_, by simp [hb]⟩
                  show s.data[k] ∈ s.data.toList
                  exact Array.mem_toList_iff.2 (Array.getElem_mem hlt)
                rw [this]
                simp
              have HF2 : Hid (nameF s = false) := hf
              clear hb hf
              go_wp2_with (go_at_call 19; refine HB.mono ?_; rintro e w2 ⟨rfl, rfl⟩)
              go_ret
              exact ⟨ret_bool HF2.out.symm, hF⟩
          · have hall : (s.data.toList.all fun b => nbOK b.toNat) = true := by
              rw [List.all_eq_true]
              intro b hb
              obtain ⟨j, hj, rfl⟩ := List.mem_iff_getElem.1 hb
              have hj' : j < s.size := by simpa using hj
              have := HA.out j hj' (by omega)
              rw [Array.getElem_toList]
              exact this
            have HN2 : Hid (nameF s = (((partsB s).dropLast.all fun p => !(p.toList == [] || climbB p)) && !climbB ((partsB s).getLastD ⟨#[]⟩))) := by
              show nameF s = _
              rw [HN.out, HVV.out, hall]
              simp
            have HS := split_any s w1 (by omega) (HT.out.keep hF)
            have hl1 : 1 ≤ (partsB s).length := by rw [partsB_length]; omega
            have hl2 : (partsB s).length ≤ 1026 := by
              have := Lib.count_le s.data.toList [47]
              rw [partsB_length]
              have e : Lib.countB s ⟨#[47]⟩ = Lib.count s.data.toList [47] := rfl
              have e2 : s.data.toList.length = s.size := by simp
              omega
            generalize partsB s = L at *
            obtain ⟨n, hn⟩ : ∃ n, L.length = n + 1 := ⟨L.length - 1, by omega⟩
            have hF2 := hF.alloc (.cells (L.map Value.string).toArray 9 (0, 0))
            have hcell : ∀ j (hj : j < L.length), (w1.alloc (.cells (L.map Value.string).toArray 9 (0, 0))).cell? ⟨w1.heap.size, j, none⟩ = some (.string L[j]) := fun j hj => cellOf (heap_alloc_new _ _) (by simp [hj])
            have HC : Hid _ := hcell
            have HL : Hid (L.length = n + 1) := hn
            clear HN hall HA hcell
            rw [hn] at HS hl1 hl2
            go_wp2_with (go_at_call 20; refine HS.mono ?_; rintro e w2 ⟨rfl, rfl⟩)
            generalize w1.alloc (.cells (L.map Value.string).toArray 9 (0, 0)) = w2 at *
            clear HS
            go_loop [41] (fun i => ∃ k : Nat, k ≤ n ∧ i = .int .i64 (k : Int) ∧ ∀ j (hj : j < L.length), j < k → (L[j].toList == [] || climbB L[j]) = false) (fun i => n - (intOf i).toNat)
            case atStart => exact ⟨0, Nat.zero_le _, rfl, fun j _ h => absurd h (Nat.not_lt_zero _)⟩
            case round =>
              obtain ⟨k', hk', rfl, hall⟩ := hrel
              have HA : Hid _ := hall
              have hkl : k' < L.length := by omega
              have ck := HC.out k' hkl
              have HCL := climbs_any L[k'] w2
              have HX : Hid (∀ x, L[k'] = x → ∀ j (hj : j < L.length), j = k' → L[j] = x) := fun x e j hj e2 => by subst e2; exact e
              obtain ⟨x, hx⟩ : ∃ x, L[k'] = x := ⟨_, rfl⟩
              rw [hx] at ck HCL
              have HX2 := HX.out x hx
              have HX3 : Hid _ := HX2
              clear hall HX HX2 hx
              have HBAD : Hid ((x.toList == [] || climbB x) = true → k' < n → nameF s = false) := fun hbad hlt => by
                rw [HN2.out]
                have : (L.dropLast.all fun p => !(p.toList == [] || climbB p)) = false := by
                  rw [List.all_eq_false]
                  refine ⟨x, ?_, by rw [hbad]; decide⟩
                  rw [List.dropLast_eq_take]
                  have e := HX3.out k' hkl rfl
                  rw [← e]
                  exact List.mem_take_iff_getElem.2 ⟨k', by have := HL.out; omega, rfl⟩
                rw [this]
                simp
              by_cases hlt' : k' < n
              · cases hb : (x.toList == []) with
                | true =>
                  have HF2 : Hid (nameF s = false) := HBAD.out (by simp [hb]) hlt'
                  have hb2 : x.toList.isEmpty = true := by simpa using hb
                  clear HBAD hb
                  go_wp2_with (go_at_call 21; refine HCL.mono ?_; rintro e w3 ⟨rfl, rfl⟩)
                  go_ret
                  exact ⟨ret_bool HF2.out.symm, hF2⟩
                | false =>
                  have hb2 : x.toList.isEmpty = false := by simpa using hb
                  cases hd : climbB x with
                  | true =>
                    rw [hd] at HCL
                    have HF2 : Hid (nameF s = false) := HBAD.out (by simp [hd]) hlt'
                    clear HBAD hb hd
                    go_wp2_with (go_at_call 21; refine HCL.mono ?_; rintro e w3 ⟨rfl, rfl⟩)
                    go_ret
                    exact ⟨ret_bool HF2.out.symm, hF2⟩
                  | false =>
                    rw [hd] at HCL
                    have HA2 : Hid (∀ j (hj : j < L.length), j < k' + 1 → (L[j].toList == [] || climbB L[j]) = false) := fun j hj h => by
                      rcases Nat.lt_or_ge j k' with h' | h'
                      · exact HA.out j hj h'
                      · rw [HX3.out j hj (by omega), hb, hd]
                        rfl
                    clear HBAD hb hd
                    go_wp2_with (go_at_call 21; refine HCL.mono ?_; rintro e w3 ⟨rfl, rfl⟩)
                    refine ⟨⟨k' + 1, by omega, rfl, HA2.out⟩, ?_⟩
                    simp [intOf]
                    omega
              · have ek : k' = n := by omega
                subst ek
                have HN3 : Hid (nameF s = !climbB x) := by
                  show nameF s = _
                  rw [HN2.out]
                  have : (L.dropLast.all fun p => !(p.toList == [] || climbB p)) = true := by
                    rw [List.all_eq_true]
                    intro p hp
                    rw [List.dropLast_eq_take] at hp
                    obtain ⟨j, hj, rfl⟩ := List.mem_take_iff_getElem.1 hp
                    rw [HA.out j (by omega) (by have := HL.out; omega)]
                    rfl
                  rw [this, Bool.true_and]
                  congr 2
                  rw [List.getLastD_eq_getLast?, List.getLast?_eq_getElem?]
                  have e : L.length - 1 = k' := by have := HL.out; omega
                  rw [e, List.getElem?_eq_getElem hkl, HX3.out k' hkl rfl]
                  rfl
                clear HBAD
                go_wp2_with (go_at_call 21; refine HCL.mono ?_; rintro e w3 ⟨rfl, rfl⟩)
                go_ret
                exact ⟨ret_bool HN3.out.symm, hF2⟩
#print axioms name_any
end Go.Proofs.YtlhikoomghbnjaaGreatDoor
