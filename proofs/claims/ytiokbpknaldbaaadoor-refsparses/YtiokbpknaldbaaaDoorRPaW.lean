/- Both Parse of any text; the walk of RefsParses. -/
import Derived.Test.YtiokbpknaldbaaaDoorRDp1
import Derived.Test.YtiokbpknaldbaaaDoorRDp2
import Derived.Test.YtiokbpknaldbaaaDoorRDp3
import Derived.Test.YtiokbpknaldbaaaDoorRDp4
import Derived.Test.YtiokbpknaldbaaaDoorRDp5
namespace Go.Proofs.YtiokbpknaldbaaaDoor
open Go.RowKit Go.Shelf

/-- What Parse answers. -/
def ansV (s : ByteArray) : Value := match rfA s with
  | .ok R => .tuple #[refV R, .int .i64 0, .int .i64 0]
  | .error (a, d) => .tuple #[(.agg #[.string ⟨#[]⟩, .string ⟨#[]⟩, .bool false, .bool false, .int .i64 0, .int .i64 0, .bool false, .bool false, .int .i64 0, .int .i64 0, .bool false, .bool false]), .int .i64 (a : Int), .int .i64 d]
theorem ans_ok {s : ByteArray} {R : RefW} (h : rfA s = .ok R) : ansV s = .tuple #[refV R, .int .i64 0, .int .i64 0] := by unfold ansV; rw [h]
theorem ans_no {s : ByteArray} {a : Nat} {d : Int} (h : rfA s = .error (a, d)) : ansV s = .tuple #[(.agg #[.string ⟨#[]⟩, .string ⟨#[]⟩, .bool false, .bool false, .int .i64 0, .int .i64 0, .bool false, .bool false, .int .i64 0, .int .i64 0, .bool false, .bool false]), .int .i64 (a : Int), .int .i64 d] := by unfold ansV; rw [h]
theorem pparse_any (s : ByteArray) (w : World) (hz : s.size ≤ 140737488355328) (hE : ETab w) :
    Calls Tryd.prog 5 #[.string s] w fun e w' => e = .returned (ansV s) ∧ Fr noB w w' := by
  cases hR : rfA s with
  | ok R =>
    rw [ans_ok hR]
    exact parse_ok s R w hz hR
  | error v =>
    obtain ⟨a, d⟩ := v
    rw [ans_no hR]
    exact parse_no s a d w hE hz hR
theorem rparse_any (s : ByteArray) (w : World) (hz : s.size ≤ 140737488355328) (hT : Tabs w) :
    Calls Tryd.prog 6 #[.string s] w fun e w' => e = .returned (ansV s) ∧ Fr noB w w' := by
  obtain ⟨V, hV⟩ : ∃ V, rfA s = V := ⟨_, rfl⟩
  have hR := hV
  unfold rfA at hR
  split at hR
  · rename_i e hs
    subst hR
    obtain ⟨a, d⟩ := e
    rw [ans_no hV]
    exact parseD_1 s w hT hz a d hs
  · rename_i t q hs
    split at hR
    · rename_i hbad
      subst hR
      rw [ans_no hV]
      have ht := ba_nil t hbad.2
      subst ht
      exact parseD_2 s w hT hz q hbad.1 hs
    · rename_i hbad
      split at hR
      · rename_i e hp
        subst hR
        obtain ⟨a, d⟩ := e
        rw [ans_no hV]
        exact parseD_3 s w hT hz t q _ rfl hs hbad a d hp
      · rename_i k z hp
        obtain ⟨r, c, x, y⟩ := k
        unfold tlA at hR
        split at hR
        · rename_i h58
          split at hR
          · rename_i e hto
            subst hR
            obtain ⟨a, d⟩ := e
            rw [ans_no hV]
            unfold toA at hto
            split at hto
            · rename_i e2 hs2
              cases hto
              exact parseD_6 s w hT hz t q _ rfl hs hbad r c z x y hp h58 a d hs2
            · rename_i u q2 hs2
              split at hto
              · cases hto
              · rename_i hor
                cases hto
                exact parseD_7 s w hT hz t q _ rfl hs hbad r c z x y hp h58 u q2 hs2 (by omega) (by omega)
          · rename_i u q2 hto
            have hto2 := toA_ok hto
            split at hR
            · rename_i e hp2
              subst hR
              obtain ⟨a, d⟩ := e
              rw [ans_no hV]
              exact parseD_8 s w hT hz t q _ rfl hs hbad r c z x y hp h58 u q2 hto2.1 hto2.2 a d hp2
            · rename_i m z2 hp2
              obtain ⟨r2, c2, x2, y2⟩ := m
              split at hR
              · rename_i hend
                subst hR
                rw [ans_ok hV]
                exact parseD_9 s w hT hz t q _ rfl hs hbad r c z x y hp h58 u q2 hto2.1 hto2.2 r2 c2 z2 x2 y2 hp2 hend
              · rename_i hend
                subst hR
                rw [ans_no hV]
                exact parseD_10 s w hT hz t q _ rfl hs hbad r c z x y hp h58 u q2 hto2.1 hto2.2 r2 c2 z2 x2 y2 hp2 hend
        · rename_i h58
          split at hR
          · rename_i hend
            subst hR
            rw [ans_ok hV]
            exact parseD_4 s w hT hz t q _ rfl hs hbad r c z x y hp (by simpa using h58) hend
          · rename_i hend
            subst hR
            rw [ans_no hV]
            exact parseD_5 s w hT hz t q _ rfl hs hbad r c z x y hp (by simpa using h58) hend
theorem ans_is (s : ByteArray) : ∃ (t3 : ByteArray) (u3 : ByteArray) (f3 : Bool) (a3 : Bool) (p3 : Int) (q3 : Int) (f4 : Bool) (f5 : Bool) (p4 : Int) (q4 : Int) (f6 : Bool) (f7 : Bool) (n m : Int), ansV s = .tuple #[(.agg #[.string t3, .string u3, .bool f3, .bool a3, .int .i64 p3, .int .i64 q3, .bool f4, .bool f5, .int .i64 p4, .int .i64 q4, .bool f6, .bool f7]), .int .i64 n, .int .i64 m] := by
  unfold ansV
  split
  · exact ⟨_, _, _, _, _, _, _, _, _, _, _, _, _, _, rfl⟩
  · exact ⟨_, _, _, _, _, _, _, _, _, _, _, _, _, _, rfl⟩
set_option maxRecDepth 100000 in
set_option maxHeartbeats 4000000 in
theorem parses_walk (s : ByteArray) (w : World) (hz : s.size ≤ 140737488355328) (hT : Tabs w) (hE : ETab w) :
    Calls Tryd.prog 3 #[.string s] w fun e w' => e = .returned (.bool true) ∧ Below w.heap.size w w' := by
  have H0 := live_true
  have H1 := pparse_any s w hz hE
  have H2 : Hid (∀ W, Fr noB w W → _) := fun W hW => rparse_any s W hz (hT.keep hW)
  obtain ⟨t3, u3, f3, a3, p3, q3, f4, f5, p4, q4, f6, f7, n, m, hA⟩ := ans_is s
  rw [hA] at H1 H2
  have HX : Hid (∀ w1 w2 w3 : World, Fr noB w w1 → Fr noB (w1.alloc (.cells #[.string t3, .string u3, .bool f3, .bool a3, .int .i64 p3, .int .i64 q3, .bool f4, .bool f5, .int .i64 p4, .int .i64 q4, .bool f6, .bool f7] 25 (0, 0))) w2 → Fr noB (w2.alloc (.cells #[.string t3, .string u3, .bool f3, .bool a3, .int .i64 p3, .int .i64 q3, .bool f4, .bool f5, .int .i64 p4, .int .i64 q4, .bool f6, .bool f7] 25 (0, 0))) w3 → Fr noB w w3 ∧ RAt w3 w1.heap.size t3 u3 f3 a3 p3 q3 f4 f5 p4 q4 f6 f7 ∧ RAt w3 w2.heap.size t3 u3 f3 a3 p3 q3 f4 f5 p4 q4 f6 f7) := fun w1 w2 w3 h1 h2 h3 => by
    have f1 := (Fr.refl noB w1).alloc (.cells #[.string t3, .string u3, .bool f3, .bool a3, .int .i64 p3, .int .i64 q3, .bool f4, .bool f5, .int .i64 p4, .int .i64 q4, .bool f6, .bool f7] 25 (0, 0))
    have f2 := (Fr.refl noB w2).alloc (.cells #[.string t3, .string u3, .bool f3, .bool a3, .int .i64 p3, .int .i64 q3, .bool f4, .bool f5, .int .i64 p4, .int .i64 q4, .bool f6, .bool f7] 25 (0, 0))
    exact ⟨h1.trans (f1.trans (h2.trans (f2.trans h3))), (show RAt (w1.alloc (.cells #[.string t3, .string u3, .bool f3, .bool a3, .int .i64 p3, .int .i64 q3, .bool f4, .bool f5, .int .i64 p4, .int .i64 q4, .bool f6, .bool f7] 25 (0, 0))) w1.heap.size t3 u3 f3 a3 p3 q3 f4 f5 p4 q4 f6 f7 from ⟨heap_alloc_new _ _⟩).fr (h2.trans (f2.trans h3)) id, (show RAt (w2.alloc (.cells #[.string t3, .string u3, .bool f3, .bool a3, .int .i64 p3, .int .i64 q3, .bool f4, .bool f5, .int .i64 p4, .int .i64 q4, .bool f6, .bool f7] 25 (0, 0))) w2.heap.size t3 u3 f3 a3 p3 q3 f4 f5 p4 q4 f6 f7 from ⟨heap_alloc_new _ _⟩).fr h3 id⟩
  clear hA hT hE hz
  go_enter Tryd.func3, Tryd.ntmps3
  go_wp2_with (first
    | (go_at_call 5; (with_reducible refine H1.mono ?_); rintro e w1 ⟨rfl, hF1⟩)
    | (go_at_call 6; (with_reducible refine (H2.out _ (hF1.alloc (.cells #[.string t3, .string u3, .bool f3, .bool a3, .int .i64 p3, .int .i64 q3, .bool f4, .bool f5, .int .i64 p4, .int .i64 q4, .bool f6, .bool f7] 25 (0, 0)))).mono ?_); rintro e w2 ⟨rfl, hF2⟩)
    | (go_at_call 7; (with_reducible refine (H0 _).mono ?_); rintro e w3 ⟨rfl, hF3⟩; obtain ⟨hG, hA3, hB3⟩ := HX.out _ _ _ hF1 hF2 hF3; have g0 := hA3.g0; have g1 := hA3.g1; have g2 := hA3.g2; have g3 := hA3.g3; have g4 := hA3.g4; have g5 := hA3.g5; have g6 := hA3.g6; have g7 := hA3.g7; have g8 := hA3.g8; have g9 := hA3.g9; have g10 := hA3.g10; have g11 := hA3.g11; have k0 := hB3.g0; have k1 := hB3.g1; have k2 := hB3.g2; have k3 := hB3.g3; have k4 := hB3.g4; have k5 := hB3.g5; have k6 := hB3.g6; have k7 := hB3.g7; have k8 := hB3.g8; have k9 := hB3.g9; have k10 := hB3.g10; have k11 := hB3.g11))
  go_ret
  exact ⟨rfl, hG.below (Nat.le_refl _) (fun _ h => h.elim)⟩
#print axioms parses_walk
end Go.Proofs.YtiokbpknaldbaaaDoor
