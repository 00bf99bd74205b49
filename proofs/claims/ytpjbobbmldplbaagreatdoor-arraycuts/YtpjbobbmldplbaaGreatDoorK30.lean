/- The document's Turn of an array that may not be, whose list is nil. -/
import Derived.Test.YtpjbobbmldplbaaGreatDoorK15
import Derived.Test.YtpjbobbmldplbaaGreatDoorK16
namespace Go.Proofs.YtpjbobbmldplbaaGreatDoor
open Go.RowKit Ieee Go.Shelf
attribute [local go_sem] run_store_float

theorem hidE {p : Prop} (h : p) : Hid p := h
theorem AAt.setN {w : World} {B : Nat} {r c : Int} (h : AAt w B r c none 0 0) : AAt (w.setCell ⟨B, 2, none⟩ (.slice none 0 0)) B r c none 0 0 := ⟨by
  have hh := heap_setCell_same w B 2 _ _ (.slice none 0 0) h.o
  simpa using hh⟩
set_option maxRecDepth 100000 in
theorem rturn_nil (r c : Int) (cap : Nat) (w : World) (hU : U8 w) (E : Int) (hE : arrF ckV r c [] = E) (hne : E ≠ 0) :
    Calls Tryz.prog 18 #[.agg #[.int .i64 r, .int .i64 c, .slice none 0 cap]] w fun e w' => ∃ so sc, e = .returned (.agg #[.int .i64 r, .int .i64 c, .slice so 0 sc]) ∧ Fr noB w w' := by
  obtain ⟨W0, hW0⟩ : ∃ W0, ((w.alloc (.cells #[.int .i64 r, .int .i64 c, .slice none 0 cap] 27 (0, 0))).alloc (.cells #[.int .i64 0, .int .i64 0, .slice none 0 0] 27 (0, 0))).alloc (.cells #[.int .i64 0, .int .i64 0, .slice none 0 0] 27 (0, 0)) = W0 := ⟨_, rfl⟩
  have hX : AAt W0 w.heap.size r c none 0 cap := by rw [← hW0]; exact ⟨old1 (old1 (new1 _ _ _ rfl))⟩
  have hO : AAt W0 (w.heap.size + 1) 0 0 none 0 0 := by rw [← hW0]; exact ⟨old1 (new1 _ _ _ (by simp))⟩
  have hR : AAt W0 (w.heap.size + 1 + 1) 0 0 none 0 0 := by rw [← hW0]; exact ⟨new1 _ _ _ (by simp)⟩
  have hF : Fr noB w W0 := by rw [← hW0]; exact (((Fr.refl noB w).alloc _).alloc _).alloc _
  have HC : Hid (∀ W, Fr noB w W → Calls Tryz.prog 29 #[.agg #[.int .i64 r, .int .i64 c, .slice none 0 cap]] W fun e w' => e = .returned (.int .i64 E) ∧ Fr noB W w') := fun W h => by
    have hh := rcheckA r c none cap [] W (Or.inl rfl) (fun y hy => by cases hy) (hU.fr h)
    rw [hE] at hh
    exact hh
  have q2 : (E != 0) = true := by simpa using hne
  have HH : Hid (AAt W0 w.heap.size r c none 0 cap ∧ AAt W0 (w.heap.size + 1) 0 0 none 0 0 ∧ Fr noB w W0) := ⟨hX, hO, hF⟩
  have HW0 : Hid _ := hW0
  rw [← hW0] at hR
  clear hX hO hF hW0 hU hE hne
  go_enter Tryz.func18, Tryz.ntmps18
  go_wp2_with (first
    | (refine wpList_store_arr rfl (.tmp 3) (.tmp 10) rfl (w.heap.size + 1 + 1) r c none 0 0 rfl rfl hR ?_; rw [HW0.out]; intro W hW hFW
       have hF3 := HH.out.2.2.new hFW (by omega)
       have gX := HH.out.1.fr hFW (by simp [oneB]; omega)
       have gO := HH.out.2.1.fr hFW (by simp [oneB])
       have g0 := cellOf (o := 0) gX.o rfl; have g1 := cellOf (o := 1) gX.o rfl; have g2 := cellOf (o := 2) gX.o rfl)
    | (go_at_call 29; refine (HC.out _ hF3).mono ?_; rintro e w1 ⟨rfl, hF1⟩
       have gA := gX.fr hF1 id; have k0 := cellOf (o := 0) gA.o rfl; have k1 := cellOf (o := 1) gA.o rfl; have k2 := cellOf (o := 2) gA.o rfl
       have gR := hW.fr hF1 id; have l0 := cellOf (o := 0) gR.o rfl; have l1 := cellOf (o := 1) gR.o rfl; have l2 := cellOf (o := 2) gR.o rfl
       have fz := freeOf 2 gR.o
       have HF5 : Fr (oneB (w.heap.size + 1 + 1)) w1 (w1.setCell ⟨w.heap.size + 1 + 1, 2, none⟩ (.slice none 0 0)) := Fr.setOne (Fr.refl _ w1) 2 _
       have gO5 := (gO.fr hF1 id).fr HF5 (by simp [oneB])
       have gR5 := AAt.setN gR
       obtain ⟨W5, hW5⟩ : ∃ W5, w1.setCell ⟨w.heap.size + 1 + 1, 2, none⟩ (.slice none 0 0) = W5 := ⟨_, rfl⟩
       rw [hW5] at HF5 gO5 gR5
       have m0 := cellOf (o := 0) gR5.o rfl; have m1 := cellOf (o := 1) gR5.o rfl; have m2 := cellOf (o := 2) gR5.o rfl
       have HW5 := hidE hW5
       clear g0 g1 g2 hW5)
    | (rw [HW5.out])
    | (refine wpList_store_arr rfl (.tmp 2) (.tmp 20) rfl (w.heap.size + 1) r c none 0 0 rfl rfl gO5 ?_; intro W6 hW6 hFW6))
  exact bodyPost_ret (aret Tryz.results18 _ _ _ rfl hW6) rfl ⟨none, 0, rfl, ((hF3.trans hF1).new HF5 (by omega)).new hFW6 (by omega)⟩
#print axioms rturn_nil
end Go.Proofs.YtpjbobbmldplbaaGreatDoor
/- What an array that may be has of rows and columns; the cells of a list of values by their number. -/
namespace Go.Proofs.YtpjbobbmldplbaaGreatDoor
open Go.RowKit

theorem arrF_ok {f : Vv → Int} {r c : Int} {L : List Vv} (h : arrF f r c L = 0) : ∃ R C : Nat, r = (R : Int) ∧ c = (C : Int) ∧ L.length = R * C ∧ R * C ≤ 4096 ∧ 1 ≤ R ∧ 1 ≤ C := by
  unfold arrF at h
  by_cases h1 : r < 1 ∨ c < 1
  · rw [if_pos h1] at h; omega
  rw [if_neg h1] at h
  by_cases h2 : 4096 < r * c
  · rw [if_pos h2] at h; omega
  rw [if_neg h2] at h
  by_cases h3 : (L.length : Int) ≠ r * c
  · rw [if_pos h3] at h; omega
  obtain ⟨R, rfl⟩ := Int.eq_ofNat_of_zero_le (show 0 ≤ r by omega)
  obtain ⟨C, rfl⟩ := Int.eq_ofNat_of_zero_le (show 0 ≤ c by omega)
  have e : (R : Int) * (C : Int) = ((R * C : Nat) : Int) := (Int.natCast_mul R C).symm
  rw [e] at h2 h3
  exact ⟨R, C, rfl, rfl, by omega, by omega, by omega, by omega⟩
theorem vs_cells {w : World} {b off : Nat} {L : List Vv} (h : VsAt w (some ⟨b, off, none⟩) L) : ∀ j u, (vsC L)[j]? = some u → w.cell? ((⟨b, off, none⟩ : Addr).add j) = some u := by
  intro j u hj
  have hlen := vsC_len L
  have hjl : j < (vsC L).length := by
    rcases Nat.lt_or_ge j (vsC L).length with h | h
    · exact h
    · rw [List.getElem?_eq_none h] at hj; cases hj
  have hi : j / 5 < L.length := by omega
  have hm : j % 5 < 5 := Nat.mod_lt _ (by omega)
  have hd : j / 5 * 5 + j % 5 = j := by omega
  have hg := vsC_get L (j / 5) hi (j % 5) hm
  rw [hd, hj] at hg
  obtain ⟨b2, off2, he, _, c0, c1, c2, c3, c4⟩ := h.get (j / 5) hi
  injection he with he1
  injection he1 with he2 he3
  subst he2 he3
  have ha : (⟨b, off, none⟩ : Addr).add j = ⟨b, off + j / 5 * 5 + j % 5, none⟩ := by
    rw [Nat.add_assoc, hd]
    simp [Addr.add]
  rw [ha]
  generalize j % 5 = jj at *
  match jj, hm, hg with
  | 0, _, hg => simp [vC] at hg; subst hg; exact c0
  | 1, _, hg => simp [vC] at hg; subst hg; exact c1
  | 2, _, hg => simp [vC] at hg; subst hg; exact c2
  | 3, _, hg => simp [vC] at hg; subst hg; exact c3
  | 4, _, hg => simp [vC] at hg; subst hg; exact c4
#print axioms vs_cells
#print axioms arrF_ok
end Go.Proofs.YtpjbobbmldplbaaGreatDoor
