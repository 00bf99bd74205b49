/- The walk of live and of the law FlateInflates. -/
import Derived.Test.YthgnhcdodfildaaDoorK30
import Derived.Test.YthgnhcdodfildaaDoorK38
import Derived.Test.YthgnhcdodfildaaDoorFxP
namespace Go.Proofs.YthgnhcdodfildaaDoor
open Go.RowKit

def liveB : List Nat := [1, 1, 0, 254, 255, 97, 9]
theorem live_end : endA liveB 5 (8 * liveB.length + 1) 0 [] = (0, 48, [97]) := by decide +kernel
theorem live_fix : packB (fixAll []) = [3, 0] := by
  unfold fixAll fixBits
  decide
theorem live_bs (w : World) : Bs (w.alloc (.cells #[.int .u8 1, .int .u8 1, .int .u8 0, .int .u8 254, .int .u8 255, .int .u8 97, .int .u8 9] 5 (0, 0))) (.slice (some ⟨w.heap.size, 0, none⟩) 7 7) liveB := by
  refine ⟨_, 7, rfl, by decide, by decide, by simp, Or.inr ⟨w.heap.size, 0, rfl, by simp, fun i hi => ?_⟩⟩
  rw [Nat.zero_add]
  refine cellOf (heap_alloc_new w _) ?_
  match i, hi with
  | 0, _ => rfl
  | 1, _ => rfl
  | 2, _ => rfl
  | 3, _ => rfl
  | 4, _ => rfl
  | 5, _ => rfl
  | 6, _ => rfl
theorem two_bs (w : World) : Bs (w.alloc (.cells #[.int .u8 3, .int .u8 0] 5 (0, 0))) (.slice (some ⟨w.heap.size, 0, none⟩) 2 2) [3, 0] := by
  refine ⟨_, 2, rfl, by decide, by decide, by simp, Or.inr ⟨w.heap.size, 0, rfl, by simp, fun i hi => ?_⟩⟩
  rw [Nat.zero_add]
  refine cellOf (heap_alloc_new w _) ?_
  match i, hi with
  | 0, _ => rfl
  | 1, _ => rfl
theorem str_a : strOf [97] = ⟨#[97]⟩ := rfl

set_option maxRecDepth 100000 in
set_option maxHeartbeats 1600000 in
theorem flive_any (w : World) (hTo : Told w) :
    Calls Tryd.prog 7 #[] w fun e w' => e = .returned (.bool true) ∧ Fr noB w w' := by
  have HI0 := inflate_any (.slice (some ⟨w.heap.size, 0, none⟩) 7 7) liveB 5 _ (live_bs w) (hTo.keep ((Fr.refl noB w).alloc _) id) (by decide) (by decide) (by decide) (by decide)
  rw [live_end] at HI0
  have HI := HI0.mono (fun e w' (hh : infP _ _ e w') => (by
    obtain ⟨h1, h2⟩ := hh
    rcases h1 with ⟨_, u, h3, h4⟩ | ⟨h3, _⟩
    · exact ⟨u, h3, h4, h2⟩
    · exact absurd rfl h3 : ∃ u, e = .returned (.tuple #[u, .int .i64 6, .int .i64 0]) ∧ w'.ownsRow (w.alloc (.cells #[.int .u8 1, .int .u8 1, .int .u8 0, .int .u8 254, .int .u8 255, .int .u8 97, .int .u8 9] 5 (0, 0))).heap.size 5 1 u [97].length (byteVals [97]) ∧ Fr noB (w.alloc (.cells #[.int .u8 1, .int .u8 1, .int .u8 0, .int .u8 254, .int .u8 255, .int .u8 97, .int .u8 9] 5 (0, 0))) w'))
  clear HI0
  go_enter Tryd.func7, Tryd.ntmps7
  go_wp2_with fail
  refine HI.mono ?_
  rintro e w1 ⟨u, rfl, hown, hF1⟩
  have hbs : Bs w1 u [97] := Bs.ofOwn hown
  have hconv := conv_bytes w1 u [97] hbs (by decide)
  rw [str_a] at hconv
  obtain ⟨so, sc, rfl, -⟩ := own_slice hown
  have hFw1 : Fr noB w w1 := ((Fr.refl noB w).alloc _).trans hF1
  rw [List.length_singleton] at hconv
  clear hown hbs HI
  go_wp2_with fail
  refine (wfixed_any (.slice none 0 0) [] w1 (Bs.nil w1) (by simp) (by simp)).mono ?_
  rintro e w2 ⟨u2, rfl, hown2, hF2⟩
  rw [live_fix] at hown2
  have hbs2 : Bs w2 u2 [3, 0] := Bs.ofOwn hown2
  obtain ⟨so2, sc2, rfl, -⟩ := own_slice hown2
  have hbs3 : Bs (w2.alloc (.cells #[.int .u8 3, .int .u8 0] 5 (0, 0))) (.slice so2 2 sc2) [3, 0] := hbs2.fr ((Fr.refl noB w2).alloc _) (fun _ _ _ _ _ _ _ h => h)
  have HE := equal_same _ _ [3, 0] _ hbs3 (two_bs w2) (by decide)
  have hFw2 : Fr noB w (w2.alloc (.cells #[.int .u8 3, .int .u8 0] 5 (0, 0))) := (hFw1.trans hF2).alloc _
  clear hown2 hbs2 hbs3 hconv
  go_wp2_with fail
  refine HE.mono ?_
  rintro e w3 ⟨rfl, rfl⟩
  go_wp2_with fail
  go_ret
  exact ⟨rfl, hFw2⟩

theorem repN_lt (sd : List Nat) (d n : Nat) (h : ∀ x ∈ sd, x < 256) : ∀ x ∈ repN sd d n, x < 256 := by
  intro x hx
  unfold repN at hx
  rcases List.mem_append.1 hx with hx | hx
  · exact h x hx
  · obtain ⟨j, _, rfl⟩ := List.mem_map.1 hx
    exact getD_lt h _
theorem matA_lt (M B : List Nat) (p : Nat) (sd : List Nat) (most : Int) (s : Nat) (h : ∀ x ∈ sd, x < 256) : ∀ x ∈ (matA M B p sd most s).2.2, x < 256 := by
  unfold matA
  split
  · exact h
  split
  · exact h
  split
  · exact h
  split
  · exact h
  split
  · exact h
  split
  · exact h
  split
  · exact h
  · exact repN_lt _ _ _ h
theorem symsA_lt (M N B : List Nat) (most : Int) : ∀ (f p : Nat) (sd : List Nat), (∀ x ∈ sd, x < 256) → ∀ x ∈ (symsA M N B most f p sd).2.2, x < 256 := by
  intro f
  induction f with
  | zero => intro p sd h; exact h
  | succ f ih =>
    intro p sd h
    unfold symsA
    split
    · exact h
    split
    · exact h
    split
    · rename_i hlit
      split
      · exact h
      · refine ih _ _ (fun x hx => ?_)
        rcases List.mem_append.1 hx with hx | hx
        · exact h x hx
        · simp at hx
          omega
    · split
      · exact h
      · exact ih _ _ (matA_lt _ _ _ _ _ _ h)
theorem kndA_lt (B : List Nat) (hB : ∀ x ∈ B, x < 256) (most : Int) (k p : Nat) (sd : List Nat) (h : ∀ x ∈ sd, x < 256) : ∀ x ∈ (kndA B most k p sd).2.2, x < 256 := by
  unfold kndA
  split
  · unfold stoA
    split
    · exact h
    split
    · exact h
    split
    · exact h
    split
    · exact h
    · intro x hx
      rcases List.mem_append.1 hx with hx | hx
      · exact h x hx
      · exact hB x (List.mem_of_mem_drop (List.mem_of_mem_take hx))
  split
  · exact symsA_lt _ _ _ _ _ _ _ h
  split
  · rw [dynA_hd]
    split
    · exact h
    · exact symsA_lt _ _ _ _ _ _ _ h
  · exact h
theorem blkA_lt (B : List Nat) (hB : ∀ x ∈ B, x < 256) (most : Int) (p : Nat) (sd : List Nat) (h : ∀ x ∈ sd, x < 256) : ∀ x ∈ (blkA B most p sd).1.2.2, x < 256 := by
  unfold blkA
  split
  · exact h
  · exact kndA_lt B hB most _ _ _ h
theorem endA_lt (B : List Nat) (hB : ∀ x ∈ B, x < 256) (most : Int) : ∀ (f p : Nat) (sd : List Nat), (∀ x ∈ sd, x < 256) → ∀ x ∈ (endA B most f p sd).2.2, x < 256 := by
  intro f
  induction f with
  | zero => intro p sd h; exact h
  | succ f ih =>
    intro p sd h
    unfold endA
    split
    · exact blkA_lt B hB most p sd h
    · exact ih _ _ (blkA_lt B hB most p sd h)
/-- What both Inflates answer, in one form. -/
def bothP (w : World) (E : Nat × Nat × List Nat) (e : Ending) (w' : World) : Prop :=
  ∃ (so : Option Addr) (n sc u er : Nat) (L : List Nat), e = .returned (.tuple #[.slice so n sc, .int .i64 (u : Int), .int .i64 (er : Int)]) ∧ Bs w' (.slice so n sc) L ∧ Fr noB w w' ∧ L = (if E.1 = 0 then E.2.2 else []) ∧ u = (if E.1 = 0 then (E.2.1 + 7) / 8 else 0) ∧ er = E.1
theorem both_of {w : World} {E : Nat × Nat × List Nat} {e : Ending} {w' : World} (h : infP w E e w') : bothP w E e w' := by
  obtain ⟨h1, h2⟩ := h
  rcases h1 with ⟨h0, u, rfl, h4⟩ | ⟨h3, rfl⟩
  · obtain ⟨so, sc, rfl, -⟩ := own_slice h4
    exact ⟨so, _, sc, _, 0, _, rfl, Bs.ofOwn h4, h2, by rw [if_pos h0], by rw [if_pos h0], h0.symm⟩
  · exact ⟨none, 0, 0, 0, E.1, [], rfl, Bs.nil _, h2, by rw [if_neg h3], by rw [if_neg h3], rfl⟩
theorem both_ofR {w : World} {E : Nat × Nat × List Nat} {e : Ending} {w' : World} (h : rinfP w E e w') : bothP w E e w' := by
  obtain ⟨h1, h2⟩ := h
  rcases h1 with ⟨h0, u, rfl, h4⟩ | ⟨h3, rfl⟩
  · obtain ⟨so, sc, rfl, -⟩ := own_slice h4
    exact ⟨so, _, sc, _, 0, _, rfl, Bs.ofOwn h4, h2, by rw [if_pos h0], by rw [if_pos h0], h0.symm⟩
  · exact ⟨none, 0, 0, 0, E.1, [], rfl, Bs.nil _, h2, by rw [if_neg h3], by rw [if_neg h3], rfl⟩
set_option maxRecDepth 100000 in
set_option maxHeartbeats 1600000 in
theorem inflates_of (v : Value) (E : Nat × Nat × List Nat) (most : Int) (w : World) (h1 : Calls Tryd.prog 5 #[v, .int .i64 most] w (bothP w E)) (h2 : ∀ w', Fr noB w w' → Calls Tryd.prog 6 #[v, .int .i64 most] w' (bothP w' E)) (hTo : Told w) (hE : ∀ x ∈ (if E.1 = 0 then E.2.2 else []), x < 256) :
    Calls Tryd.prog 3 #[v, .int .i64 most] w fun e w' => e = .returned (.bool true) ∧ Below w.heap.size w w' := by
  have H2 : Hid (∀ w', Fr noB w w' → Calls Tryd.prog 6 #[v, .int .i64 most] w' (bothP w' E)) := h2
  have HT : Hid (∀ w', Fr noB w w' → Told w') := fun w' hf => hTo.keep hf id
  have HE : Hid (∀ x ∈ (if E.1 = 0 then E.2.2 else []), x < 256) := hE
  clear h2 hTo hE
  go_enter Tryd.func3, Tryd.ntmps3
  go_wp2_with fail
  refine h1.mono ?_
  rintro e w1 ⟨so, n, sc, u, er, L, rfl, hb1, hF1, hL, hu, her⟩
  have C2 := H2.out w1 hF1
  have HB1 : Hid (Bs w1 (.slice so n sc) L) := hb1
  have HF1 : Hid (Fr noB w w1) := hF1
  have HX : Hid (L = (if E.1 = 0 then E.2.2 else []) ∧ u = (if E.1 = 0 then (E.2.1 + 7) / 8 else 0) ∧ er = E.1) := ⟨hL, hu, her⟩
  clear h1 H2 hb1 hF1 hL hu her
  go_wp2_with fail
  refine C2.mono ?_
  rintro e w2 ⟨so2, n2, sc2, u2, er2, L2, rfl, hb2, hF2, hL2, hu2, her2⟩
  have eL : L2 = L := by rw [hL2, HX.out.1]
  have eu : u2 = u := by rw [hu2, HX.out.2.1]
  have ee : er2 = er := by rw [her2, HX.out.2.2]
  subst eL eu ee
  have HB2 : Hid (Bs w2 (.slice so2 n2 sc2) L2) := hb2
  have HF2 : Hid (Fr noB w w2) := HF1.out.trans hF2
  have hB1' : Bs w2 (.slice so n sc) L2 := Bs.fr HB1.out hF2 (fun _ _ _ _ _ _ _ h => h)
  have HB1' : Hid (Bs w2 (.slice so n sc) L2) := hB1'
  have CL := flive_any w2 (HT.out w2 HF2.out)
  clear C2 hb2 hF2 hB1' hL2 hu2 her2
  go_wp2_with fail
  refine CL.mono ?_
  rintro e w3 ⟨rfl, hF3⟩
  have CE := equal_same _ _ L2 w3 (Bs.fr HB1'.out hF3 (fun _ _ _ _ _ _ _ h => h)) (Bs.fr HB2.out hF3 (fun _ _ _ _ _ _ _ h => h)) (by rw [HX.out.1]; exact HE.out)
  have HF3 : Hid (Fr noB w w3) := HF2.out.trans hF3
  clear CL hF3
  go_wp2_with fail
  refine CE.mono ?_
  rintro e w4 ⟨rfl, rfl⟩
  go_wp2_with fail
  go_ret
  exact ⟨rfl, HF3.out.below (Nat.le_refl _) (fun k hk => hk.elim)⟩
theorem inflates_walk (v : Value) (B : List Nat) (most : Int) (w : World) (hv : Bs w v B) (hB : ∀ x ∈ B, x < 256) (hl : B.length ≤ 1073741824) (hm1 : -9223372036854775808 ≤ most) (hm2 : most ≤ 9223372036854775807) (hTo : Told w) :
    Calls Tryd.prog 3 #[v, .int .i64 most] w fun e w' => e = .returned (.bool true) ∧ Below w.heap.size w w' := by
  have hk : ∀ w', Fr noB w w' → Bs w' v B := fun w' hf => hv.fr hf (fun _ _ _ _ _ _ _ h => h)
  by_cases hm : most < 0
  · exact inflates_of v (1, 0, []) most w ((inflate_neg v B most w hv hm).mono fun _ _ h => both_of h) (fun w' hf => (rinflate_neg v B most w' (hk w' hf) hm).mono fun _ _ h => both_ofR h) hTo (by simp)
  · refine inflates_of v (endA B most (8 * B.length + 1) 0 []) most w ((inflate_any v B most w hv hTo hB hl (by omega) hm2).mono fun _ _ h => both_of h) (fun w' hf => (rinflate_any v B most w' (hk w' hf) hB hl (by omega) hm2).mono fun _ _ h => both_ofR h) hTo ?_
    intro x hx
    split at hx
    · exact endA_lt B hB most _ _ [] (by simp) x hx
    · simp at hx
#print axioms flive_any
#print axioms inflates_walk
end Go.Proofs.YthgnhcdodfildaaDoor
