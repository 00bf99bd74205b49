/- The walk of live and of the law FlateWrites. -/
import Derived.Test.YtcefochgpijfbaaDoorInf4
import Derived.Test.YtcefochgpijfbaaDoorFix3
import Derived.Test.YtcefochgpijfbaaDoorStoR
namespace Go.Proofs.YtcefochgpijfbaaDoor
open Go.RowKit

def liveB : List Nat := [1, 1, 0, 254, 255, 97, 9]
theorem live_last : Last liveB 0 1 1 0 254 255 [97] := ⟨by decide, by decide, by decide, by decide, by decide, by decide, by decide, by decide, by decide⟩
theorem live_fix : packB (fixAll []) = [3, 0] := by
  unfold fixAll fixBits
  decide
theorem live_bs (w : World) : Bs (w.alloc (.cells #[.int .u8 1, .int .u8 1, .int .u8 0, .int .u8 254, .int .u8 255, .int .u8 97, .int .u8 9] 5 (0, 0))) (.slice (some ⟨w.heap.size, 0, none⟩) 7 7) liveB := by
  refine ⟨_, 7, rfl, by decide, by decide, by simp, Or.inr ⟨w.heap.size, 0, rfl, by simp, fun i hi => ?_⟩⟩
  rw [Nat.zero_add]
  refine cellOf (heap_alloc_new w _) ?_
  match i, hi with
  | 0, _ => rfl
  | 1, _ => rfl
  | 2, _ => rfl
  | 3, _ => rfl
  | 4, _ => rfl
  | 5, _ => rfl
  | 6, _ => rfl
theorem two_bs (w : World) : Bs (w.alloc (.cells #[.int .u8 3, .int .u8 0] 5 (0, 0))) (.slice (some ⟨w.heap.size, 0, none⟩) 2 2) [3, 0] := by
  refine ⟨_, 2, rfl, by decide, by decide, by simp, Or.inr ⟨w.heap.size, 0, rfl, by simp, fun i hi => ?_⟩⟩
  rw [Nat.zero_add]
  refine cellOf (heap_alloc_new w _) ?_
  match i, hi with
  | 0, _ => rfl
  | 1, _ => rfl
theorem blk_lt (f : Nat) (hf : f < 256) (b : List Nat) (hb : ∀ x ∈ b, x < 256) (hl : b.length ≤ 65535) : ∀ x ∈ blkB f b, x < 256 := by
  intro x hx
  unfold blkB at hx
  rcases List.mem_append.1 hx with h | h
  · simp at h
    omega
  · exact hb x h
theorem stored_lt (D : List Nat) (hD : ∀ x ∈ D, x < 256) (_h : D.length ≤ 1073741824) : ∀ x ∈ storedF 1 D, x < 256 := by
  intro x hx
  rw [storedF] at hx
  split at hx
  · rcases List.mem_append.1 hx with h | h
    · exact blk_lt 0 (by decide) _ (fun y hy => hD y (List.mem_of_mem_take hy)) (by simp; omega) x h
    · exact stored_lt (D.drop 65535) (fun y hy => hD y (List.mem_of_mem_drop hy)) (by simp; omega) x h
  · exact blk_lt 1 (by decide) D hD (by omega) x hx
termination_by D.length
decreasing_by simp; omega
theorem str_a : strOf [97] = ⟨#[97]⟩ := rfl

set_option maxRecDepth 100000 in
set_option maxHeartbeats 1600000 in
theorem flive_any (w : World) :
    Calls Tryd.prog 8 #[] w fun e w' => e = .returned (.bool true) ∧ Fr noB w w' := by
  have HI := inflate_last (.slice (some ⟨w.heap.size, 0, none⟩) 7 7) liveB [97] 1 1 0 254 255 5 _ (live_bs w) live_last (by decide) (by decide)
  go_enter Tryd.func8, Tryd.ntmps8
  go_wp2_with fail
  refine HI.mono ?_
  rintro e w1 ⟨u, rfl, hown, hF1⟩
  have hbs : Bs w1 u [97] := Bs.ofOwn hown
  have hconv := conv_bytes w1 u [97] hbs (by decide)
  rw [str_a] at hconv
  obtain ⟨so, sc, rfl, -⟩ := own_slice hown
  have hFw1 : Fr noB w w1 := ((Fr.refl noB w).alloc _).trans hF1
  rw [List.length_singleton] at hconv
  clear hown hbs
  go_wp2_with fail
  refine (fixed_any (.slice none 0 0) [] w1 (Bs.nil w1) (by simp) (by simp)).mono ?_
  rintro e w2 ⟨u2, rfl, hown2, hF2⟩
  rw [live_fix] at hown2
  have hbs2 : Bs w2 u2 [3, 0] := Bs.ofOwn hown2
  obtain ⟨so2, sc2, rfl, -⟩ := own_slice hown2
  have hbs3 : Bs (w2.alloc (.cells #[.int .u8 3, .int .u8 0] 5 (0, 0))) (.slice so2 2 sc2) [3, 0] := hbs2.fr ((Fr.refl noB w2).alloc _) (fun _ _ _ _ _ _ _ h => h)
  have HE := equal_same _ _ [3, 0] _ hbs3 (two_bs w2) (by decide)
  have hFw2 : Fr noB w (w2.alloc (.cells #[.int .u8 3, .int .u8 0] 5 (0, 0))) := (hFw1.trans hF2).alloc _
  clear hown2 hbs2 hbs3 hconv
  go_wp2_with fail
  refine HE.mono ?_
  rintro e w3 ⟨rfl, rfl⟩
  go_wp2_with fail
  go_ret
  exact ⟨rfl, hFw2⟩

set_option maxRecDepth 100000 in
set_option maxHeartbeats 1600000 in
theorem writes_walk (v : Value) (D : List Nat) (w : World) (hv : Bs w v D) (hD : ∀ x ∈ D, x < 256) (hDl : D.length ≤ 1073741824) :
    Calls Tryd.prog 5 #[v] w fun e w' => e = .returned (.bool true) ∧ Below w.heap.size w w' := by
  have HV : Hid (∀ w', Fr noB w w' → Bs w' v D) := fun w' hw => hv.fr hw (fun _ _ _ _ _ _ _ h => h)
  have HSb : Hid (∀ x ∈ storedF 1 D, x < 256) := stored_lt D hD hDl
  have HPb : Hid (∀ x ∈ packB (fixAll D), x < 256) := packB_lt _
  obtain ⟨ao, cap, rfl, b1, b2, b4, _⟩ := hv
  go_enter Tryd.func5, Tryd.ntmps5
  go_wp2_with fail
  refine (flive_any w).mono ?_
  rintro e w1 ⟨rfl, hF1⟩
  go_wp2_with fail
  refine (stored_any _ D w1 (HV.out w1 hF1) hD hDl).mono ?_
  rintro e w2 ⟨u2, rfl, hown2, hF2⟩
  have hb2 : Bs w2 u2 (storedF 1 D) := Bs.ofOwn hown2
  obtain ⟨so2, sc2, rfl, -⟩ := own_slice hown2
  have hF12 := hF1.trans hF2
  have HR := refstored_any _ D w2 (HV.out w2 hF12) hD hDl
  generalize storedF 1 D = S at *
  clear hown2
  go_wp2_with fail
  refine HR.mono ?_
  rintro e w3 ⟨u3, rfl, hown3, hF3⟩
  have hb3 : Bs w3 u3 S := Bs.ofOwn hown3
  obtain ⟨so3, sc3, rfl, -⟩ := own_slice hown3
  have hF13 := hF12.trans hF3
  have HE := equal_same _ _ S w3 (hb2.fr hF3 (fun _ _ _ _ _ _ _ h => h)) hb3 HSb.out
  clear hown3 hb2 hb3 HR
  go_wp2_with fail
  refine HE.mono ?_
  rintro e w4 ⟨rfl, hw4⟩
  have hw4' := hw4.symm
  subst hw4'
  have HX := fixed_any _ D w3 (HV.out w3 hF13) hD hDl
  have HY : ∀ w', Fr noB w w' → Calls Tryd.prog 17 #[.slice ao D.length cap] w' fun e w'' => ∃ u, e = .returned u ∧ w''.ownsRow w'.heap.size 5 1 u (packB (fixAll D)).length (byteVals (packB (fixAll D))) ∧ Fr noB w' w'' := fun w' h => reffixed_any _ D w' (HV.out w' h) hD hDl
  generalize packB (fixAll D) = PB at *
  have HHY : Hid _ := HY
  clear HE HY
  go_wp2_with fail
  refine HX.mono ?_
  rintro e w5 ⟨u5, rfl, hown5, hF5⟩
  have hb5 : Bs w5 u5 PB := Bs.ofOwn hown5
  obtain ⟨so5, sc5, rfl, -⟩ := own_slice hown5
  have hF15 := hF13.trans hF5
  have HR := HHY.out w5 hF15
  clear hown5 HX
  go_wp2_with fail
  refine HR.mono ?_
  rintro e w6 ⟨u6, rfl, hown6, hF6⟩
  have hb6 : Bs w6 u6 PB := Bs.ofOwn hown6
  obtain ⟨so6, sc6, rfl, -⟩ := own_slice hown6
  have hF16 := hF15.trans hF6
  have HE := equal_same _ _ PB w6 (hb5.fr hF6 (fun _ _ _ _ _ _ _ h => h)) hb6 HPb.out
  clear hown6 hb5 hb6 HR
  go_wp2_with fail
  refine HE.mono ?_
  rintro e w7 ⟨rfl, rfl⟩
  go_wp2_with fail
  go_ret
  exact ⟨rfl, hF16.below (Nat.le_refl _) (fun k hk => hk.elim)⟩
#print axioms flive_any
#print axioms writes_walk
end Go.Proofs.YtcefochgpijfbaaDoor
