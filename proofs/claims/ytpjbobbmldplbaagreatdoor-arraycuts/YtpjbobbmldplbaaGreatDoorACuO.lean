/- ArrayCuts is true of all arguments that may come. -/
import Derived.Test.YtpjbobbmldplbaaGreatDoorACuL
import Derived.Test.YtpjbobbmldplbaaGreatDoorK30
import Derived.Test.YtpjbobbmldplbaaGreatDoorK17
namespace Go.Proofs.YtpjbobbmldplbaaGreatDoor
open Go.RowKit

set_option maxHeartbeats 1000000 in
theorem cuts_ok (rf ms : Bool) (gr gc : Int) (go_ : Option Addr) (gcap : Nat) (P : List Pl) (top left row col : Int) (t1 : -9223372036854775808 ≤ top) (t2 : top ≤ 9223372036854775807) (l1 : -9223372036854775808 ≤ left) (l2 : left ≤ 9223372036854775807) (r1 : -9223372036854775808 ≤ row) (r2 : row ≤ 9223372036854775807) (c1 : -9223372036854775808 ≤ col) (c2 : col ≤ 9223372036854775807) (r c : Int) (ao : Option Addr) (cap : Nat) (L : List Vv) (w : World) (hG : PsAt w go_ P) (hlg : P.length ≤ 140737488355328) (hVg : ∀ p ∈ P, Vok p.v) (hA : VsAt w ao L) (hl : L.length * 48 ≤ 140737488355328) (hV : ∀ y ∈ L, Vok y) (hU : U8 w) :
    Calls Tryz.prog 4 #[.agg #[.bool rf, .bool ms, .int .i64 gr, .int .i64 gc, .slice go_ P.length gcap], .agg #[.int .i64 top, .int .i64 left, .int .i64 row, .int .i64 col], .agg #[.int .i64 r, .int .i64 c, .slice ao L.length cap]] w fun e w' => e = .returned (.bool true) ∧ Fr noB w w' := by
  have HP : Hid (∀ V, Fr noB w V → _) := fun V h => pcut_any rf ms gr gc go_ gcap P top left row col t1 t2 l1 l2 r1 r2 c1 c2 V (hG.keep h) hlg hVg (hU.fr h)
  have HR : Hid (∀ V, Fr noB w V → _) := fun V h => rcut_any rf ms gr gc go_ gcap P top left row col t1 t2 l1 l2 r1 r2 c1 c2 V (hG.keep h) hlg hVg (hU.fr h)
  obtain ⟨E, hE⟩ : ∃ E, arrF ckV r c L = E := ⟨_, rfl⟩
  by_cases h0 : E = 0
  · subst h0
    obtain ⟨R, C, rfl, rfl, hL, h4, hR, hC⟩ := arrF_ok hE
    have e : (turnN R C L).length = C * R := by rw [turn_len, Nat.mul_comm]
    refine cuts_walk rf ms gr gc go_ gcap P top left row col (R : Int) (C : Int) ao L.length cap w hU (cutF ms gr gc P top left row col) (C : Int) (R : Int) (turnN R C L) (by rw [turn_len]; omega) HP HR (fun V h => ?_) (fun V h => ?_)
    · rw [e]
      exact pturn_ok R C ao cap L V (hA.keep h) hV (hU.fr h) hE hL h4 hR hC
    · rw [e]
      have hne : L ≠ [] := fun hh => by
        rw [hh] at hL
        have := Nat.mul_le_mul hR hC
        simp at hL
        omega
      rcases hA.keep h with h1 | ⟨b, off, rfl, h1, h2⟩
      · exact absurd h1 hne
      · exact rturn_ok R C b off cap L V (Or.inr ⟨b, off, rfl, h1, h2⟩) hV (hU.fr h) hE hL h4 hR hC
  · refine cuts_walk rf ms gr gc go_ gcap P top left row col r c ao L.length cap w hU (cutF ms gr gc P top left row col) r c L (by omega) HP HR (fun V h => ?_) (fun V h => ?_)
    · exact pturn_no r c ao cap L V (hA.keep h) hl hV (hU.fr h) E hE h0
    · cases ao with
      | none =>
        rcases hA with h1 | ⟨b, off, h1, _⟩
        · subst h1
          refine (rturn_nil r c cap V (hU.fr h) E hE h0).mono ?_
          rintro e w' ⟨so, sc, rfl, hF⟩
          exact ⟨so, sc, rfl, Or.inl rfl, hF⟩
        · cases h1
      | some ad =>
        refine rturn_no r c ad cap L V (hA.keep h) hl hV (hU.fr h) E hE h0 (fun W hW j u hj => ?_)
        rcases (hA.keep h).keep hW with h1 | ⟨b, off, h1, h2, h3⟩
        · rw [h1] at hj
          simp at hj
        · injection h1 with h1
          subst h1
          exact vs_cells (Or.inr ⟨b, off, rfl, h2, h3⟩) j u hj
#print axioms cuts_ok
end Go.Proofs.YtpjbobbmldplbaaGreatDoor
