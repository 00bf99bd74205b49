/- Turn of the code: the closure that its array is filled by; an array that may not be. -/
import Derived.Test.YtpjbobbmldplbaaGreatDoorK15
import Derived.Test.YtpjbobbmldplbaaGreatDoorK17
import Derived.Deep.AppendLies
import Derived.Deep.RegionHeld3
namespace Go.Proofs.YtpjbobbmldplbaaGreatDoor
open Go.RowKit Ieee Go.Shelf
attribute [local go_sem] run_store_float

/-- The closure: what At has for the place with row and column changed. -/
theorem tur1_ok (r c row col : Int) (ao : Option Addr) (cap : Nat) (L : List Vv) (w : World) (g : Nat) (hG : AAt w g r c ao L.length cap) (hA : VsAt w ao L) (h1 : 1 ≤ r) (h2 : 1 ≤ c) (h3 : (L.length : Int) = r * c) (h4 : r * c ≤ 4096) (h5 : 0 ≤ row) (h6 : row < r) (h7 : 0 ≤ col) (h8 : col < c) (i : Nat) (hi : (i : Int) = row * c + col) (hiL : i < L.length) (v : Vv) (hv : L[i] = v) (hs : v.s.size ≤ 140737488355328) :
    Calls Tryz.prog 39 #[.int .i64 col, .int .i64 row, .pointer (some ⟨g, 0, none⟩)] w fun e w' => e = .returned (.agg #[.int .i64 v.k, .float .f64 v.n, .string v.s, .bool v.y, .int .i64 v.e]) ∧ Fr noB w w' := by
  have HA : Hid (∀ W, Fr noB w W → Calls Tryz.prog 28 #[.agg #[.int .i64 r, .int .i64 c, .slice ao L.length cap], .int .i64 row, .int .i64 col] W fun e w' => e = .returned (.agg #[.int .i64 v.k, .float .f64 v.n, .string v.s, .bool v.y, .int .i64 v.e]) ∧ Fr noB W w') := fun W h => pat_ok r c row col ao cap L W (hA.keep h) h1 h2 h3 h4 h5 h6 h7 h8 i hi hiL v hv hs
  have hO : VAt (w.alloc (.cells #[.int .i64 0, .float .f64 0, .string ⟨#[]⟩, .bool false, .int .i64 0] 37 (0, 0))) w.heap.size 0 0 ⟨#[]⟩ false 0 := ⟨new1 _ _ _ rfl⟩
  have HF0 : Hid (Fr noB w (w.alloc (.cells #[.int .i64 0, .float .f64 0, .string ⟨#[]⟩, .bool false, .int .i64 0] 37 (0, 0)))) := (Fr.refl noB w).alloc _
  have HB : Hid (∀ W, Fr noB (w.alloc (.cells #[.int .i64 0, .float .f64 0, .string ⟨#[]⟩, .bool false, .int .i64 0] 37 (0, 0))) W → VAt W w.heap.size 0 0 ⟨#[]⟩ false 0) := fun W h => hO.fr h id
  have hG1 : AAt (w.alloc (.cells #[.int .i64 0, .float .f64 0, .string ⟨#[]⟩, .bool false, .int .i64 0] 37 (0, 0))) g r c ao L.length cap := ⟨old1 hG.o⟩
  have g0 := hG1.d0
  have g1 := hG1.d1
  have g2 := hG1.d2
  clear hA hv hi h3 h4 hs hO hG hG1
  go_enter Tryz.func39, Tryz.ntmps39
  go_wp2_with (first
    | (go_at_call 28; refine (HA.out _ HF0.out).mono ?_; rintro e w1 ⟨rfl, hF1⟩; have hO1 := HB.out _ hF1)
    | (refine wpList_store_val rfl (.tmp 5) (.tmp 9) rfl w.heap.size v.k v.n v.s v.y v.e rfl rfl hO1 ?_; intro W hW hFW))
  exact bodyPost_ret (vret Tryz.results39 _ _ _ rfl hW) rfl ⟨rfl, (HF0.out.trans hF1).new hFW (by omega)⟩
set_option maxRecDepth 100000 in
theorem pturn_no (r c : Int) (ao : Option Addr) (cap : Nat) (L : List Vv) (w : World) (hA : VsAt w ao L) (hl : L.length * 48 ≤ 140737488355328) (hV : ∀ y ∈ L, Vok y) (hU : U8 w) (E : Int) (hE : arrF ckV r c L = E) (hne : E ≠ 0) :
    Calls Tryz.prog 17 #[.agg #[.int .i64 r, .int .i64 c, .slice ao L.length cap]] w fun e w' => ∃ so sc, e = .returned (.agg #[.int .i64 r, .int .i64 c, .slice so L.length sc]) ∧ VsAt w' so L ∧ Fr noB w w' := by
  have hF0 : Fr noB w ((w.alloc (.cells #[.int .i64 r, .int .i64 c, .slice ao L.length cap] 27 (0, 0))).alloc (.cells #[.int .i64 0, .int .i64 0, .slice none 0 0] 27 (0, 0))) := ((Fr.refl noB w).alloc _).alloc _
  have hX : AAt ((w.alloc (.cells #[.int .i64 r, .int .i64 c, .slice ao L.length cap] 27 (0, 0))).alloc (.cells #[.int .i64 0, .int .i64 0, .slice none 0 0] 27 (0, 0))) w.heap.size r c ao L.length cap := ⟨old1 (new1 _ _ _ rfl)⟩
  have hO : AAt ((w.alloc (.cells #[.int .i64 r, .int .i64 c, .slice ao L.length cap] 27 (0, 0))).alloc (.cells #[.int .i64 0, .int .i64 0, .slice none 0 0] 27 (0, 0))) (w.heap.size + 1) 0 0 none 0 0 := ⟨new1 _ _ _ (by simp)⟩
  have HB : Hid (∀ W, Fr noB ((w.alloc (.cells #[.int .i64 r, .int .i64 c, .slice ao L.length cap] 27 (0, 0))).alloc (.cells #[.int .i64 0, .int .i64 0, .slice none 0 0] 27 (0, 0))) W → AAt W w.heap.size r c ao L.length cap ∧ AAt W (w.heap.size + 1) 0 0 none 0 0) := fun W h => ⟨hX.fr h id, hO.fr h id⟩
  have HF0 : Hid (Fr noB w ((w.alloc (.cells #[.int .i64 r, .int .i64 c, .slice ao L.length cap] 27 (0, 0))).alloc (.cells #[.int .i64 0, .int .i64 0, .slice none 0 0] 27 (0, 0)))) := hF0
  have HS : Hid (((w.alloc (.cells #[.int .i64 r, .int .i64 c, .slice ao L.length cap] 27 (0, 0))).alloc (.cells #[.int .i64 0, .int .i64 0, .slice none 0 0] 27 (0, 0))).heap.size = w.heap.size + 1 + 1) := by show _ = _; simp
  have HC := pcheckA r c ao cap L ((w.alloc (.cells #[.int .i64 r, .int .i64 c, .slice ao L.length cap] 27 (0, 0))).alloc (.cells #[.int .i64 0, .int .i64 0, .slice none 0 0] 27 (0, 0))) (hA.keep hF0) hV (hU.fr hF0)
  rw [hE] at HC
  have HP : Hid (∀ W, Fr noB w W → Calls Tryz.prog 37 #[.agg #[.int .i64 r, .int .i64 c, .slice ao L.length cap]] W fun e w' => ∃ so sc, e = .returned (.agg #[.int .i64 r, .int .i64 c, .slice so L.length sc]) ∧ VsAt w' so L ∧ (∀ b o, so = some ⟨b, o, none⟩ → W.heap.size ≤ b) ∧ Fr noB W w') := fun W h => copied_any r c ao cap L W (hA.keep h) hl hV
  have q2 : (E != 0) = true := by simpa using hne
  clear hA hV hU hl hE hX hO hF0 hne
  go_enter Tryz.func17, Tryz.ntmps17
  go_wp2_with (first
    | (go_at_call 27; refine HC.mono ?_; rintro e w1 ⟨rfl, hF1⟩; have gA := (HB.out _ hF1).1; have g0 := gA.d0; have g1 := gA.d1; have g2 := gA.d2)
    | (go_at_call 37; refine (HP.out _ (HF0.out.trans hF1)).mono ?_; rintro e w2 ⟨so, sc, rfl, hv2, hb2, hF2⟩; have hO2 := (HB.out _ (hF1.trans hF2)).2)
    | (refine wpList_store_arr rfl (.tmp 2) (.tmp 7) rfl (w.heap.size + 1) r c so L.length sc rfl rfl hO2 ?_; intro W hW hFW))
  refine bodyPost_ret (aret Tryz.results17 _ _ _ rfl hW) rfl ⟨so, sc, rfl, hv2.keep1 hFW (fun b o hb => ?_), (HF0.out.trans (hF1.trans hF2)).new hFW (by omega)⟩
  have h1 := hb2 b o hb
  have h2 := hF1.size
  rw [HS.out] at h2
  omega
#print axioms tur1_ok
#print axioms pturn_no
end Go.Proofs.YtpjbobbmldplbaaGreatDoor
/- The array of what a closure has for each place: filled, with the closure of Turn. -/
namespace Go.Proofs.YtpjbobbmldplbaaGreatDoor
open Go.RowKit Ieee Go.Shelf
attribute [local go_sem] run_store_float

theorem own_lt {base n : Nat} {w : World} {v : Value} {xs : List Value} {t : TypeId} {sz : Nat} (h : w.ownsRow base t sz v n xs) : ∀ b, v.ownBlock = some b → b < w.heap.size := by
  intro b e
  obtain ⟨_, h2⟩ := h
  rcases h2 with ⟨h2, _⟩ | ⟨g, cap, cur, hv, hg, hh, _⟩
  · rw [h2] at e; simp [Value.ownBlock] at e
  · rw [hv] at e
    simp [Value.ownBlock] at e
    rw [← e]
    exact lt_of_block hh
theorem own_far {w w' : World} {base n ob : Nat} {e : TypeId} {k : Nat} {v : Value} {xs : List Value} (h : w.ownsRow base e k v n xs) (hF : Fr (oneB ob) w w') (hn : ∀ b, v.ownBlock = some b → b ≠ ob) : w'.ownsRow base e k v n xs := by
  obtain ⟨h1, h2⟩ := h
  refine ⟨h1, ?_⟩
  rcases h2 with h2 | ⟨g, cap, cur, hv, hg, hh, r⟩
  · exact Or.inl h2
  · exact Or.inr ⟨g, cap, cur, hv, hg, hF.obj hh (hn g (by rw [hv]; rfl)), r⟩
/-- Where the rounds stand: m values have been laid behind one another; the array that is filled lies at ob. -/
structure FiI (w : World) (R C : Nat) (T : List Vv) (ob m : Nat) (so : Option Addr) (sc : Nat) (V : World) : Prop where
  o : AAt V w.heap.size 0 0 none 0 0
  u : AAt V ob (R : Int) (C : Int) so m sc
  own : V.ownsRow (w.heap.size + 1) 37 5 (.slice so m sc) m (vsC (T.take m))
  ne : ∀ b, (Value.slice so m sc).ownBlock = some b → b ≠ ob
  fr : Fr noB w V
theorem FiI.step {w : World} {R C ob : Nat} {T : List Vv} {m : Nat} {so : Option Addr} {sc : Nat} {V V3 : World} {g c1 : Nat} {v : Vv} (h : FiI w R C T ob m so sc V) (hob : w.heap.size < ob) (hF : Fr (fun j => (Value.slice so m sc).ownBlock = some j) V V3)
    (hown : V3.ownsRow (w.heap.size + 1) 37 5 (.slice (some ⟨g, 0, none⟩) (m + 1) c1) (m + 1) (vsC (T.take m) ++ vC v)) (ht : T.take (m + 1) = T.take m ++ [v]) (hg : g ≠ ob) :
    FiI w R C T ob (m + 1) (some ⟨g, 0, none⟩) c1 (V3.setCell ⟨ob, 2, none⟩ (.slice (some ⟨g, 0, none⟩) (m + 1) c1)) := by
  have hb := own_base h.own
  have hS : Fr (oneB ob) V3 (V3.setCell ⟨ob, 2, none⟩ (.slice (some ⟨g, 0, none⟩) (m + 1) c1)) := (Fr.refl _ _).setOne _ _
  have hu := h.u.fr hF (fun hh => h.ne _ hh rfl)
  have hgs : ∀ b, (Value.slice (some ⟨g, 0, none⟩) (m + 1) c1).ownBlock = some b → b ≠ ob := fun b hh => by
    simp [Value.ownBlock] at hh
    omega
  refine ⟨(h.o.fr hF (fun hh => by have := hb _ hh; omega)).fr hS (by simp [oneB]; omega), ⟨?_⟩, ?_, hgs, (h.fr.then hF (fun j hj => Or.inr (by have := hb _ hj; omega))).new hS (by omega)⟩
  · have hh := heap_setCell_same V3 ob 2 _ _ (.slice (some ⟨g, 0, none⟩) (m + 1) c1) hu.o
    simpa using hh
  · rw [ht, vsC_app, vsC_one]
    exact own_far hown hS hgs
set_option maxRecDepth 100000 in
set_option maxHeartbeats 4000000 in
theorem filled_ok (R C : Nat) (T : List Vv) (hT : T.length = R * C) (h4096 : R * C ≤ 4096) (hR1 : 1 ≤ R) (hC1 : 1 ≤ C) (g : Nat) (w : World)
    (HCl : Hid (∀ V, Fr noB w V → ∀ (i k : Nat) (v : Vv) (hh : i * C + k < T.length), i < R → k < C → T[i * C + k] = v → Calls Tryz.prog 39 #[.int .i64 (i : Int), .int .i64 (k : Int), .pointer (some ⟨g, 0, none⟩)] V fun e w' => e = .returned (.agg #[.int .i64 v.k, .float .f64 v.n, .string v.s, .bool v.y, .int .i64 v.e]) ∧ Fr noB V w')) :
    Calls Tryz.prog 38 #[.int .i64 (R : Int), .int .i64 (C : Int), .func (.func 39) #[] #[.pointer (some ⟨g, 0, none⟩)]] w fun e w' => ∃ so sc, e = .returned (.agg #[.int .i64 (R : Int), .int .i64 (C : Int), .slice so (R * C) sc]) ∧ VsAt w' so T ∧ (∀ b o, so = some ⟨b, o, none⟩ → w.heap.size < b) ∧ Fr noB w w' := by
  have hm : maxLen = 9223372036854775807 := rfl
  obtain ⟨i0, hi, hz0, hz1, hz2⟩ := info_parts Tryz.infoV
  have hR4 : R ≤ 4096 := Nat.le_trans (Nat.le_mul_of_pos_right R hC1) h4096
  have hC4 : C ≤ 4096 := Nat.le_trans (Nat.le_mul_of_pos_left C hR1) h4096
  obtain ⟨q, hq⟩ : ∃ q, R * C = q := ⟨_, rfl⟩
  have hqi : (R : Int) * (C : Int) = (q : Int) := by rw [← hq]; exact (Int.natCast_mul R C).symm
  have HQ : Hid (R * C = q ∧ T.length = q) := ⟨hq, hT.trans hq⟩
  rw [hq] at h4096 ⊢
  clear hq hT
  obtain ⟨W0, hW0⟩ : ∃ W0, w.alloc (.cells #[.int .i64 0, .int .i64 0, .slice none 0 0] 27 (0, 0)) = W0 := ⟨_, rfl⟩
  have hO : AAt W0 w.heap.size 0 0 none 0 0 := by rw [← hW0]; exact ⟨new1 _ _ _ rfl⟩
  have hF : Fr noB w W0 := by rw [← hW0]; exact (Fr.refl noB w).alloc _
  have hs : W0.heap.size = w.heap.size + 1 := by rw [← hW0]; simp
  have HH : Hid (AAt W0 w.heap.size 0 0 none 0 0 ∧ Fr noB w W0 ∧ W0.heap.size = w.heap.size + 1) := ⟨hO, hF, hs⟩
  have HW0 : Hid _ := hW0
  clear hO hF hs hW0
  go_enter Tryz.func38, Tryz.ntmps38
  go_wp2_with (at_make; refine wpList_make_own _ rfl _ _ 25 rfl (w.heap.size + 1) 37 i0 (.agg #[.int .i64 0, .float .f64 0, .string ⟨#[]⟩, .bool false, .int .i64 0]) 5 Tryz.underlying25 hi hz0 hz1 .i64 .i64 _ q rfl rfl (by omega) (by rw [hz2]; omega) (by omega) (by simp) ?_)
  rw [HW0.out]
  intro w1 hown1 hg1
  go_wp2_with fail
  have hF1 : Fr noB W0 w1 := (Fr.refl noB _).grown hg1 (by simp)
  have hob : w.heap.size + 1 < w1.heap.size := own_lt hown1 _ rfl
  obtain ⟨V0, hV0⟩ : ∃ V0, w1.alloc (.cells #[.int .i64 (R : Int), .int .i64 (C : Int), .slice (some ⟨w.heap.size + 1, 0, none⟩) 0 q] 27 (0, 0)) = V0 := ⟨_, rfl⟩
  have hFV : Fr noB w1 V0 := by rw [← hV0]; exact (Fr.refl _ _).alloc _
  have HT0 : Hid (FiI w R C T w1.heap.size (0 * C) (some ⟨w.heap.size + 1, 0, none⟩) q V0) := by
    rw [Nat.zero_mul]
    refine ⟨(HH.out.1.fr hF1 id).fr hFV id, by rw [← hV0]; exact ⟨new1 _ _ _ rfl⟩, own_keep hown1 hFV, fun b hb => ?_, (HH.out.2.1.trans hF1).trans hFV⟩
    simp [Value.ownBlock] at hb
    omega
  rw [hV0]
  clear hFV hV0 hF1 hown1 hg1
  generalize w1.heap.size = ob at *
  clear HW0 HH
  go_loopg [18] R (fun gh iv wr => ∃ (i : Nat) (so : Option Addr) (sc : Nat), i ≤ R ∧ gh = R - i ∧ iv = .int .i64 (i : Int) ∧ Hid (FiI w R C T ob (i * C) so sc wr))
  case atStart => exact ⟨0, _, _, Nat.zero_le _, rfl, rfl, HT0⟩
  case round =>
    rename World => wx
    obtain ⟨i, so, sc, hiR, rfl, rfl, HT⟩ := hrel
    by_cases hlt : i < R
    · go_wp2_with fail
      go_loopg [22] C (fun gh kv wr => ∃ (k : Nat) (so : Option Addr) (sc : Nat), k ≤ C ∧ gh = C - k ∧ kv = .int .i64 (k : Int) ∧ Hid (FiI w R C T ob (i * C + k) so sc wr))
      case atStart => exact ⟨0, so, sc, Nat.zero_le _, rfl, rfl, HT⟩
      case round =>
        obtain ⟨k, so, sc, hkC, rfl, rfl, HI⟩ := hrel
        by_cases hlk : k < C
        · have x2 := HI.out.u.d2
          have hkL : i * C + k < T.length := by rw [HQ.out.2, ← HQ.out.1]; exact turn_of hlk hlt
          have hm1 : i * C + k < q := by rw [← HQ.out.1]; exact turn_of hlk hlt
          obtain ⟨v, hv⟩ : ∃ v, T[i * C + k] = v := ⟨_, rfl⟩
          have HT : Hid (T.take (i * C + k + 1) = T.take (i * C + k) ++ [v]) := by rw [← hv]; exact take_snoc T _ hkL
          have HCa : Hid (∀ V, Fr noB wr V → Calls Tryz.prog 39 #[.int .i64 (i : Int), .int .i64 (k : Int), .pointer (some ⟨g, 0, none⟩)] V fun e w' => e = .returned (.agg #[.int .i64 v.k, .float .f64 v.n, .string v.s, .bool v.y, .int .i64 v.e]) ∧ Fr noB V w') := fun V h => HCl.out V (HI.out.fr.trans h) i k v hkL hlt hlk hv
          obtain ⟨vk, vn, vs, vy, ve⟩ := v
          obtain ⟨m, hmm⟩ : ∃ m, i * C + k = m := ⟨_, rfl⟩
          have HMM : Hid (i * C + k = m) := hmm
          rw [hmm] at x2 hm1 HT HI
          clear hv hkL hmm
          go_wp2_with fail
          go_region_law (first
            | (go_simp; go_at_call 39; with_reducible refine (HCa.out _ (by repeat first | exact Fr.refl _ _ | refine Fr.drew ?_ | refine Fr.drewN ?_ _)).mono ?_; rintro e w2 ⟨rfl, hF2⟩; have hG2 : Fr noB wr w2 := Fr.trans (by repeat first | exact Fr.refl _ _ | refine Fr.drew ?_ | refine Fr.drewN ?_ _) hF2; have c2 := (HI.out.u.fr hG2 id).d2; have c2a : (w2.alloc (.cells #[.int .i64 vk, .float .f64 vn, .string vs, .bool vy, .int .i64 ve] 37 (0, 0))).cell? ⟨ob, 2, none⟩ = some (.slice so m sc) := (HI.out.u.fr (hG2.alloc _) id).d2; have hO2 := own_keep HI.out.own (hG2.alloc (.cells #[.int .i64 vk, .float .f64 vn, .string vs, .bool vy, .int .i64 ve] 37 (0, 0))); have hs2 : ob < w2.heap.size := Nat.lt_of_lt_of_le (lt_of_block HI.out.u.o) hG2.size)
            | (refine step_append_lies _ rfl _ _ 25 rfl (w.heap.size + 1) 37 i0 (.agg #[.int .i64 0, .float .f64 0, .string ⟨#[]⟩, .bool false, .int .i64 0]) 5 48 Tryz.underlying25 hi hz0 hz1 hz2 rfl (by decide) _ m (vsC (T.take m)) rfl hO2 ⟨w2.heap.size, 0, none⟩ 1 1 (vC ⟨vk, vn, vs, vy, ve⟩) rfl rfl (World.news_of_block (heap_alloc_new w2 (.cells #[.int .i64 vk, .float .f64 vn, .string vs, .bool vy, .int .i64 ve] 37 (0, 0)))) (vC_oneCell _) (by decide) (by omega) (by omega) (by simp; omega) (w2.heap.size + 1) (by simp) ?_; intro g1 cap1 w3 hown3 hg3 hat3 _; have hF4 : Fr (fun j => (Value.slice so m sc).ownBlock = some j) wr w3 := ((hG2.weak).alloc (.cells #[.int .i64 vk, .float .f64 vn, .string vs, .bool vy, .int .i64 ve] 37 (0, 0))).grown hg3 (fun k hk => Or.inl hk); have hu3 := HI.out.u.fr hF4 (fun hh => HI.out.ne _ hh rfl); have c3 := hu3.d2; have fz3 := freeOf 2 hu3.o; have hgo : g1 ≠ ob := hat3.elim (fun hh => HI.out.ne _ hh) (fun hh => by omega)))
          all_goals
            have HTs : Hid (FiI w R C T ob (i * C + (k + 1)) (some ⟨g1, 0, none⟩) cap1 (w3.setCell ⟨ob, 2, none⟩ (.slice (some ⟨g1, 0, none⟩) (m + 1) cap1))) := by
              rw [← Nat.add_assoc, HMM.out]
              exact HI.out.step (by omega) hF4 hown3 HT.out hgo
            clear hF4 hown3 hg3 hu3 c3 fz3 c2 c2a hO2 hF2 hG2 hs2 hgo hat3
            go_wp2_with fail
            go_roundg (C - (k + 1))
            case measure => omega
            case rel => exact ⟨k + 1, some ⟨g1, 0, none⟩, cap1, by omega, rfl, by go_num, HTs⟩
        · obtain rfl : k = C := by omega
          have HI2 : Hid (FiI w R k T ob ((i + 1) * k) so sc wr) := by rw [← turn_row]; exact HI.out
          go_wp2_with fail
          go_roundg (R - (i + 1))
          case measure => omega
          case rel => exact ⟨i + 1, so, sc, by omega, rfl, by go_num, HI2⟩
    · obtain rfl : i = R := by omega
      have x0 := HT.out.u.d0; have x1 := HT.out.u.d1; have x2 := HT.out.u.d2
      go_wp2_with (refine wpList_store_arr rfl (.tmp 6) (.tmp 36) rfl w.heap.size (i : Int) (C : Int) so (i * C) sc rfl rfl HT.out.o ?_; intro W6 hW6 hFW6)
      have hTq : T.take (i * C) = T := by rw [HQ.out.1, ← HQ.out.2, List.take_length]
      obtain ⟨so2, sc2, he, hv⟩ := own_vs HT.out.own (by rw [hTq, HQ.out.2, HQ.out.1])
      injection he with he1 _ _
      rw [← he1, hTq] at hv
      refine bodyPost_ret (aret Tryz.results38 _ _ _ rfl hW6) rfl ⟨so, sc, by rw [HQ.out.1], hv.keep1 hFW6 (fun b o hb => ?_), fun b o hb => ?_, HT.out.fr.new hFW6 (Nat.le_refl _)⟩
      · have := own_base HT.out.own b (by subst hb; rfl)
        omega
      · have := own_base HT.out.own b (by subst hb; rfl)
        omega
#print axioms filled_ok
end Go.Proofs.YtpjbobbmldplbaaGreatDoor
/- The code's Turn of an array that may be. -/
namespace Go.Proofs.YtpjbobbmldplbaaGreatDoor
open Go.RowKit Ieee Go.Shelf
attribute [local go_sem] run_store_float

set_option maxRecDepth 100000 in
set_option maxHeartbeats 1000000 in
theorem pturn_ok (R C : Nat) (ao : Option Addr) (cap : Nat) (L : List Vv) (w : World) (hA : VsAt w ao L) (hV : ∀ y ∈ L, Vok y) (hU : U8 w) (hE : arrF ckV (R : Int) (C : Int) L = 0) (hLm : L.length = R * C) (h4096 : R * C ≤ 4096) (hR1 : 1 ≤ R) (hC1 : 1 ≤ C) :
    Calls Tryz.prog 17 #[.agg #[.int .i64 (R : Int), .int .i64 (C : Int), .slice ao L.length cap]] w fun e w' => ∃ so sc, e = .returned (.agg #[.int .i64 (C : Int), .int .i64 (R : Int), .slice so (C * R) sc]) ∧ VsAt w' so (turnN R C L) ∧ Fr noB w w' := by
  obtain ⟨W0, hW0⟩ : ∃ W0, (w.alloc (.cells #[.int .i64 (R : Int), .int .i64 (C : Int), .slice ao L.length cap] 27 (0, 0))).alloc (.cells #[.int .i64 0, .int .i64 0, .slice none 0 0] 27 (0, 0)) = W0 := ⟨_, rfl⟩
  have hF0 : Fr noB w W0 := by rw [← hW0]; exact ((Fr.refl noB w).alloc _).alloc _
  have hX : AAt W0 w.heap.size (R : Int) (C : Int) ao L.length cap := by rw [← hW0]; exact ⟨old1 (new1 _ _ _ rfl)⟩
  have hO : AAt W0 (w.heap.size + 1) 0 0 none 0 0 := by rw [← hW0]; exact ⟨new1 _ _ _ (by simp)⟩
  have hs : W0.heap.size = w.heap.size + 1 + 1 := by rw [← hW0]; simp
  have HC := pcheckA (R : Int) (C : Int) ao cap L W0 (hA.keep hF0) hV (hU.fr hF0)
  rw [hE, ← hW0] at HC
  have HP : Hid (∀ V, Fr noB W0 V → Calls Tryz.prog 38 #[.int .i64 (C : Int), .int .i64 (R : Int), .func (.func 39) #[] #[.pointer (some ⟨w.heap.size, 0, none⟩)]] V fun e w' => ∃ so sc, e = .returned (.agg #[.int .i64 (C : Int), .int .i64 (R : Int), .slice so (C * R) sc]) ∧ VsAt w' so (turnN R C L) ∧ (∀ b o, so = some ⟨b, o, none⟩ → V.heap.size < b) ∧ Fr noB V w') := fun V hFV => filled_ok C R (turnN R C L) (by rw [turn_len, Nat.mul_comm]) (by rw [Nat.mul_comm]; exact h4096) hC1 hR1 w.heap.size V (fun V2 hF2 i k v hh hi hk hv => by
    have hof := turn_of hi hk
    have hkl : k * C + i < L.length := by rw [hLm]; exact hof
    have hg := turn_get (c := C) L hk hh hkl
    have hfr := hFV.trans hF2
    exact tur1_ok (R : Int) (C : Int) (k : Int) (i : Int) ao cap L V2 w.heap.size (hX.fr hfr id) (hA.keep (hF0.trans hfr)) (by omega) (by omega) (by rw [hLm]; exact Int.natCast_mul R C) (by exact_mod_cast h4096) (by omega) (by omega) (by omega) (by omega) (k * C + i) (by simp) hkl v (hg.symm.trans hv) (by rw [← hg.symm.trans hv]; exact (hV _ (List.getElem_mem _)).2))
  have HH : Hid (AAt W0 w.heap.size (R : Int) (C : Int) ao L.length cap ∧ AAt W0 (w.heap.size + 1) 0 0 none 0 0 ∧ Fr noB w W0 ∧ W0.heap.size = w.heap.size + 1 + 1) := ⟨hX, hO, hF0, hs⟩
  have HW0 : Hid _ := hW0
  clear hA hV hU hE hX hO hF0 hs hW0 hLm
  go_enter Tryz.func17, Tryz.ntmps17
  go_wp2_with (first
    | (go_at_call 27; refine HC.mono ?_; rw [HW0.out]; rintro e w1 ⟨rfl, hF1⟩; have gA := HH.out.1.fr hF1 id; have g0 := gA.d0; have g1 := gA.d1; have g2 := gA.d2)
    | (go_at_call 38; refine (HP.out _ hF1).mono ?_; rintro e w2 ⟨so, sc, rfl, hv2, hb2, hF2⟩; have hO2 := HH.out.2.1.fr (hF1.trans hF2) id)
    | (refine wpList_store_arr rfl (.tmp 2) (.tmp 13) rfl (w.heap.size + 1) (C : Int) (R : Int) so (C * R) sc rfl rfl hO2 ?_; intro W hW hFW))
  refine bodyPost_ret (aret Tryz.results17 _ _ _ rfl hW) rfl ⟨so, sc, rfl, hv2.keep1 hFW (fun b o hb => ?_), (HH.out.2.2.1.trans (hF1.trans hF2)).new hFW (by omega)⟩
  have h1 := hb2 b o hb
  have h2 := hF1.size
  rw [HH.out.2.2.2] at h2
  omega
#print axioms pturn_ok
end Go.Proofs.YtpjbobbmldplbaaGreatDoor
