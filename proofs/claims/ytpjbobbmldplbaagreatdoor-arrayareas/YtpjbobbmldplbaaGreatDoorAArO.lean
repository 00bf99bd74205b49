/- ArrayAreas is true of every argument and every array within reach. -/
import Derived.Test.YtpjbobbmldplbaaGreatDoorAArL
import Derived.Test.YtpjbobbmldplbaaGreatDoorK27
import Derived.Test.YtpjbobbmldplbaaGreatDoorK30
import Derived.Test.YtpjbobbmldplbaaGreatDoorASpR
import Derived.Test.YtpjbobbmldplbaaGreatDoorK29
import Derived.Test.YtpjbobbmldplbaaGreatDoorK16
namespace Go.Proofs.YtpjbobbmldplbaaGreatDoor
open Go.RowKit Ieee Go.Shelf

theorem areas_ok (rf ms : Bool) (gr gc : Int) (go_ : Option Addr) (gcap : Nat) (P : List Pl) (r c : Int) (ao : Option Addr) (cap : Nat) (L : List Vv) (w : World) (hG : PsAt w go_ P) (hlg : P.length ≤ 140737488355328) (hVg : ∀ p ∈ P, Vok p.v) (hA : VsAt w ao L) (hV : ∀ y ∈ L, Vok y) (hU : U8 w) :
    Calls Tryz.prog 3 #[.agg #[.bool rf, .bool ms, .int .i64 gr, .int .i64 gc, .slice go_ P.length gcap], .agg #[.int .i64 r, .int .i64 c, .slice ao L.length cap]] w fun e w' => e = .returned (.bool true) ∧ Fr noB w w' := by
  have HGp : Hid (∀ V, Fr noB w V → _) := fun V h => psingle_any rf ms gr gc go_ gcap P V (hG.keep h) hlg hVg (hU.fr h)
  have HGr : Hid (∀ V, Fr noB w V → _) := fun V h => rsingle_any rf ms gr gc go_ gcap P V (hG.keep h) hlg hVg (hU.fr h)
  have HD : ∃ (x y : Int) (T : List Vv) (ok : Bool), T.length ≤ 140737488355328 ∧ (∀ V, Fr noB w V → Calls Tryz.prog 5 #[.agg #[.bool rf, .bool ms, .int .i64 gr, .int .i64 gc, .slice go_ P.length gcap]] V fun e w' => ∃ so sc, e = .returned (.tuple #[.agg #[.int .i64 x, .int .i64 y, .slice so T.length sc], .bool ok]) ∧ VsAt w' so T ∧ Fr noB V w') ∧ (∀ V, Fr noB w V → Calls Tryz.prog 6 #[.agg #[.bool rf, .bool ms, .int .i64 gr, .int .i64 gc, .slice go_ P.length gcap]] V fun e w' => ∃ so sc, e = .returned (.tuple #[.agg #[.int .i64 x, .int .i64 y, .slice so T.length sc], .bool ok]) ∧ VsAt w' so T ∧ Fr noB V w') := by
    by_cases h0 : argF ckV ms gr gc P = 0 ∧ gr * gc ≤ 4096
    · obtain ⟨h1, h2⟩ := h0
      obtain ⟨b1, b2, b3, b4⟩ := arg_ok h1
      obtain ⟨R, rfl⟩ : ∃ R : Nat, gr = (R : Int) := ⟨gr.toNat, by omega⟩
      obtain ⟨C, rfl⟩ : ∃ C : Nat, gc = (C : Int) := ⟨gc.toNat, by omega⟩
      have h4 : R * C ≤ 4096 := by
        rw [← Int.natCast_mul] at h2
        omega
      have e : (dnsF (C : Int) P (List.replicate (R * C) nilV)).length = R * C := by rw [dnsF_len, List.length_replicate]
      refine ⟨R, C, dnsF (C : Int) P (List.replicate (R * C) nilV), true, by omega, fun V h => ?_, fun V h => ?_⟩
      · refine (pdense_ok rf ms R C go_ gcap P V (hG.keep h) hlg hVg (hU.fr h) h1 h4).mono ?_
        rintro e1 w1 ⟨b, rfl, hv, hf⟩
        exact ⟨_, _, by rw [e], hv, hf⟩
      · refine (rdense_ok rf ms R C go_ gcap P V (hG.keep h) hlg hVg (hU.fr h) h1 h4).mono ?_
        rintro e1 w1 ⟨b, rfl, hv, hf⟩
        exact ⟨_, _, by rw [e], hv, hf⟩
    · have hno : argF ckV ms gr gc P ≠ 0 ∨ 4096 < gr * gc := by
        by_cases h : argF ckV ms gr gc P = 0
        · exact Or.inr (by have := fun k => h0 ⟨h, k⟩; omega)
        · exact Or.inl h
      refine ⟨0, 0, [], false, by simp, fun V h => ?_, fun V h => ?_⟩
      · refine (pdense_no rf ms gr gc go_ gcap P V (hG.keep h) hlg hVg (hU.fr h) hno).mono ?_
        rintro e1 w1 ⟨rfl, hf⟩
        exact ⟨none, 0, rfl, Or.inl rfl, hf⟩
      · refine (rdense_no rf ms gr gc go_ gcap P V (hG.keep h) hlg hVg (hU.fr h) hno).mono ?_
        rintro e1 w1 ⟨rfl, hf⟩
        exact ⟨none, 0, rfl, Or.inl rfl, hf⟩
  have HS : ∃ (x y : Int) (Q : List Pl), Q.length ≤ 140737488355328 ∧ (∀ V, Fr noB w V → Calls Tryz.prog 10 #[.agg #[.int .i64 r, .int .i64 c, .slice ao L.length cap]] V fun e w' => ∃ so sc, e = .returned (.agg #[.bool false, .bool false, .int .i64 x, .int .i64 y, .slice so Q.length sc]) ∧ PsAt w' so Q ∧ Fr noB V w') ∧ (∀ V, Fr noB w V → Calls Tryz.prog 11 #[.agg #[.int .i64 r, .int .i64 c, .slice ao L.length cap]] V fun e w' => ∃ so sc, e = .returned (.agg #[.bool false, .bool false, .int .i64 x, .int .i64 y, .slice so Q.length sc]) ∧ PsAt w' so Q ∧ Fr noB V w') := by
    by_cases h0 : arrF ckV r c L = 0 ∧ c ≤ 1024
    · obtain ⟨h1, h2⟩ := h0
      obtain ⟨R, C, rfl, rfl, hL, h4, hR, hC⟩ := arrF_ok h1
      have hq := sprF_len C L 0
      refine ⟨R, C, sprF C 0 L, by omega, fun V h => ?_, fun V h => ?_⟩
      · exact psparse_ok R C ao cap L V (hA.keep h) hV (hU.fr h) h1 hL h4 hR hC (by omega)
      · exact rsparse_ok R C ao cap L V (hA.keep h) hV (hU.fr h) h1 hL h4 hC (by omega)
    · have hno : arrF ckV r c L ≠ 0 ∨ 1024 < c := by
        by_cases h : arrF ckV r c L = 0
        · exact Or.inr (by have := fun k => h0 ⟨h, k⟩; omega)
        · exact Or.inl h
      refine ⟨0, 0, [], by simp, fun V h => ?_, fun V h => ?_⟩
      · refine (psparse_no r c ao cap L V (hA.keep h) hV (hU.fr h) hno).mono ?_
        rintro e1 w1 ⟨rfl, hf⟩
        exact ⟨none, 0, rfl, Or.inl rfl, hf⟩
      · refine (rsparse_no r c ao cap L V (hA.keep h) hV (hU.fr h) hno).mono ?_
        rintro e1 w1 ⟨rfl, hf⟩
        exact ⟨none, 0, rfl, Or.inl rfl, hf⟩
  obtain ⟨x, y, T, ok, hT, HP, HR⟩ := HD
  obtain ⟨x2, y2, Q, hQ, HSp, HSr⟩ := HS
  exact areas_walk rf ms gr gc go_ gcap P r c ao L.length cap w hU (sglF ms gr gc P) x y T ok x2 y2 Q hT hQ HP HR HSp HSr HGp HGr
#print axioms areas_ok
end Go.Proofs.YtpjbobbmldplbaaGreatDoor
