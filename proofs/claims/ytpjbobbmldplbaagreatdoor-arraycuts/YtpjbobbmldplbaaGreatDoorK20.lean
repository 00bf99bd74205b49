/- The document's Turn of an array that may be. -/
import Derived.Test.YtpjbobbmldplbaaGreatDoorK15
import Derived.Test.YtpjbobbmldplbaaGreatDoorK16
import Derived.Test.YtpjbobbmldplbaaGreatDoorAAtR
import Derived.Deep.RegionHeld3
import Derived.Deep.AppendLies
namespace Go.Proofs.YtpjbobbmldplbaaGreatDoor
open Go.RowKit Ieee Go.Shelf
attribute [local go_sem] run_store_float

/-- Where the rounds stand: m values have been laid behind one another. -/
structure TuI (w : World) (b off cap R C : Nat) (L : List Vv) (m : Nat) (so : Option Addr) (sc : Nat) (V : World) : Prop where
  a : AAt V w.heap.size (R : Int) (C : Int) (some ⟨b, off, none⟩) L.length cap
  o : AAt V (w.heap.size + 1) 0 0 none 0 0
  u : AAt V (w.heap.size + 1 + 1) (C : Int) (R : Int) so m sc
  own : V.ownsRow (w.heap.size + 1 + 1 + 1) 37 5 (.slice so m sc) m (vsC ((turnN R C L).take m))
  fr : Fr noB w V
theorem TuI.step {w : World} {b off cap R C : Nat} {L : List Vv} {m : Nat} {so : Option Addr} {sc : Nat} {V V3 : World} {g c1 : Nat} {v : Vv} (h : TuI w b off cap R C L m so sc V) (hF : Fr (fun j => (Value.slice so m sc).ownBlock = some j) V V3)
    (hown : V3.ownsRow (w.heap.size + 1 + 1 + 1) 37 5 (.slice (some ⟨g, 0, none⟩) (m + 1) c1) (m + 1) (vsC ((turnN R C L).take m) ++ vC v)) (ht : (turnN R C L).take (m + 1) = (turnN R C L).take m ++ [v]) :
    TuI w b off cap R C L (m + 1) (some ⟨g, 0, none⟩) c1 (V3.setCell ⟨w.heap.size + 1 + 1, 2, none⟩ (.slice (some ⟨g, 0, none⟩) (m + 1) c1)) := by
  have hb := own_base h.own
  have hS : Fr (oneB (w.heap.size + 1 + 1)) V3 (V3.setCell ⟨w.heap.size + 1 + 1, 2, none⟩ (.slice (some ⟨g, 0, none⟩) (m + 1) c1)) := (Fr.refl _ _).setOne _ _
  have hu := h.u.fr hF (fun hh => by have := hb _ hh; omega)
  refine ⟨(h.a.fr hF (fun hh => by have := hb _ hh; omega)).fr hS (by simp [oneB]; omega), (h.o.fr hF (fun hh => by have := hb _ hh; omega)).fr hS (by simp [oneB]), ⟨?_⟩, ?_, (h.fr.then hF (fun j hj => Or.inr (by have := hb _ hj; omega))).new hS (by omega)⟩
  · have hh := heap_setCell_same V3 (w.heap.size + 1 + 1) 2 _ _ (.slice (some ⟨g, 0, none⟩) (m + 1) c1) hu.o
    simpa using hh
  · rw [ht, vsC_app, vsC_one]
    exact own_keep1 hown hS (by omega)
set_option maxRecDepth 100000 in
set_option maxHeartbeats 4000000 in
theorem rturn_ok (R C : Nat) (b off : Nat) (cap : Nat) (L : List Vv) (w : World) (hA : VsAt w (some ⟨b, off, none⟩) L) (hV : ∀ y ∈ L, Vok y) (hU : U8 w) (hE : arrF ckV (R : Int) (C : Int) L = 0) (hLm : L.length = R * C) (h4096 : R * C ≤ 4096) (hR1 : 1 ≤ R) (hC1 : 1 ≤ C) :
    Calls Tryz.prog 18 #[.agg #[.int .i64 (R : Int), .int .i64 (C : Int), .slice (some ⟨b, off, none⟩) L.length cap]] w fun e w' => ∃ so sc, e = .returned (.agg #[.int .i64 (C : Int), .int .i64 (R : Int), .slice so (C * R) sc]) ∧ VsAt w' so (turnN R C L) ∧ Fr noB w w' := by
  have hm : maxLen = 9223372036854775807 := rfl
  have HA0 : Hid (VsAt w (some ⟨b, off, none⟩) L) := hA
  obtain ⟨i0, hi, hz0, hz1, hz2⟩ := info_parts Tryz.infoV
  obtain ⟨W0, hW0⟩ : ∃ W0, ((w.alloc (.cells #[.int .i64 (R : Int), .int .i64 (C : Int), .slice (some ⟨b, off, none⟩) L.length cap] 27 (0, 0))).alloc (.cells #[.int .i64 0, .int .i64 0, .slice none 0 0] 27 (0, 0))).alloc (.cells #[.int .i64 0, .int .i64 0, .slice none 0 0] 27 (0, 0)) = W0 := ⟨_, rfl⟩
  have hX : AAt W0 w.heap.size (R : Int) (C : Int) (some ⟨b, off, none⟩) L.length cap := by rw [← hW0]; exact ⟨old1 (old1 (new1 _ _ _ rfl))⟩
  have hO : AAt W0 (w.heap.size + 1) 0 0 none 0 0 := by rw [← hW0]; exact ⟨old1 (new1 _ _ _ (by simp))⟩
  have hR : AAt W0 (w.heap.size + 1 + 1) 0 0 none 0 0 := by rw [← hW0]; exact ⟨new1 _ _ _ (by simp)⟩
  have hF : Fr noB w W0 := by rw [← hW0]; exact (((Fr.refl noB w).alloc _).alloc _).alloc _
  have hs : W0.heap.size = w.heap.size + 1 + 1 + 1 := by rw [← hW0]; simp
  have HC : Hid (∀ W, Fr noB w W → Calls Tryz.prog 29 #[.agg #[.int .i64 (R : Int), .int .i64 (C : Int), .slice (some ⟨b, off, none⟩) L.length cap]] W fun e w' => e = .returned (.int .i64 0) ∧ Fr noB W w') := fun W h => by
    have hh := rcheckA (R : Int) (C : Int) (some ⟨b, off, none⟩) cap L W (hA.keep h) hV (hU.fr h)
    rw [hE] at hh
    exact hh
  have HL : Hid ((vsC L).length = L.length * 5) := vsC_len L
  have HH : Hid (AAt W0 w.heap.size (R : Int) (C : Int) (some ⟨b, off, none⟩) L.length cap ∧ AAt W0 (w.heap.size + 1) 0 0 none 0 0 ∧ Fr noB w W0 ∧ W0.heap.size = w.heap.size + 1 + 1 + 1) := ⟨hX, hO, hF, hs⟩
  have HW0 : Hid _ := hW0
  rw [← hW0] at hR
  clear hX hO hF hs hW0 hA hV hU hE
  have hR4 : R ≤ 4096 := Nat.le_trans (Nat.le_mul_of_pos_right R hC1) h4096
  have hC4 : C ≤ 4096 := Nat.le_trans (Nat.le_mul_of_pos_left C hR1) h4096
  have HAt : Hid (∀ V, Fr noB w V → ∀ (i k : Nat) (v : Vv) (hh : k * C + i < L.length), i < C → k < R → L[k * C + i] = v → Calls Tryz.prog 40 #[.agg #[.int .i64 (R : Int), .int .i64 (C : Int), .slice (some ⟨b, off, none⟩) L.length cap], .int .i64 (k : Int), .int .i64 (i : Int)] V fun e w' => e = .returned (.agg #[.int .i64 v.k, .float .f64 v.n, .string v.s, .bool v.y, .int .i64 v.e]) ∧ Fr noB V w') := fun V h i k v hh h1 h2 hv => rat_ok (R : Int) (C : Int) (k : Int) (i : Int) (some ⟨b, off, none⟩) cap L V (HA0.out.keep h) (by omega) (by omega) (by rw [hLm]; exact Int.natCast_mul R C) (by exact_mod_cast h4096) (by omega) (by omega) (by omega) (by omega) (k * C + i) (by simp) hh v hv
  have HLm : Hid (L.length = R * C) := hLm
  have Hrc : Hid (R * C ≤ 4096) := h4096
  clear HA0
  clear hLm
  go_enter Tryz.func18, Tryz.ntmps18
  go_wp2_with (first
    | (refine wpList_store_arr rfl (.tmp 3) (.tmp 10) rfl (w.heap.size + 1 + 1) (R : Int) (C : Int) none 0 0 rfl rfl hR ?_; rw [HW0.out]; intro W hW hFW
       have hF3 := HH.out.2.2.1.new hFW (by omega)
       have gX := HH.out.1.fr hFW (by simp [oneB]; omega)
       have gO := HH.out.2.1.fr hFW (by simp [oneB])
       have g0 := cellOf (o := 0) gX.o rfl; have g1 := cellOf (o := 1) gX.o rfl; have g2 := cellOf (o := 2) gX.o rfl)
    | (go_at_call 29; refine (HC.out _ hF3).mono ?_; rintro e w1 ⟨rfl, hF1⟩
       have gA := gX.fr hF1 id; have k0 := cellOf (o := 0) gA.o rfl; have k1 := cellOf (o := 1) gA.o rfl; have k2 := cellOf (o := 2) gA.o rfl
       have gR := hW.fr hF1 id; have l0 := cellOf (o := 0) gR.o rfl; have l1 := cellOf (o := 1) gR.o rfl; have l2 := cellOf (o := 2) gR.o rfl
       have hz := hFW.size; have hz' := hF1.size; have hz'' := HH.out.2.2.2))
  have fz0 : w1.frozen? ⟨w.heap.size + 1 + 1, 0, none⟩ = false := freeOf 0 gR.o
  have fz1 : w1.frozen? ⟨w.heap.size + 1 + 1, 1, none⟩ = false := freeOf 1 gR.o
  have HZ : Hid (∀ V, Fr (oneB (w.heap.size + 1 + 1)) w1 V → V.cell? ⟨w.heap.size, 0, none⟩ = some (.int .i64 (R : Int)) ∧ V.cell? ⟨w.heap.size, 1, none⟩ = some (.int .i64 (C : Int))) := fun V h => by
    have hh := gA.fr h (by simp [oneB]; omega)
    exact ⟨hh.d0, hh.d1⟩
  go_region_held3 (fun V => V.cell? ⟨w.heap.size, 0, none⟩ = some (.int .i64 (R : Int)) ∧ V.cell? ⟨w.heap.size, 1, none⟩ = some (.int .i64 (C : Int))) (exact HZ.out _ (by repeat first | exact Fr.refl _ _ | refine Fr.drew ?_ | refine Fr.drewN ?_ _ | refine Fr.setOne ?_ _ _)) (fail)
  obtain ⟨V0, hV0⟩ : ∃ V0, ((w1.setCell ⟨w.heap.size + 1 + 1, 0, none⟩ (.int .i64 (C : Int))).setCell ⟨w.heap.size + 1 + 1, 1, none⟩ (.int .i64 (R : Int))).drew = V0 := ⟨_, rfl⟩
  have hFV : Fr (oneB (w.heap.size + 1 + 1)) w1 V0 := by rw [← hV0]; exact Fr.drew (Fr.setOne (Fr.setOne (Fr.refl _ _) _ _) _ _)
  have HT0 : Hid (TuI w b off cap R C L (0 * R) none 0 V0) := by
    rw [Nat.zero_mul]
    refine ⟨gA.fr hFV (by simp [oneB]; omega), (gO.fr hF1 id).fr hFV (by simp [oneB]), ⟨?_⟩, ⟨by simp, .inl ⟨rfl, rfl⟩⟩, (hF3.trans hF1).new hFV (by omega)⟩
    have h1 := heap_setCell_same w1 (w.heap.size + 1 + 1) 0 _ _ (.int .i64 (C : Int)) gR.o
    have h2 := heap_setCell_same _ (w.heap.size + 1 + 1) 1 _ _ (.int .i64 (R : Int)) h1
    have h3 : V0.heap = ((w1.setCell ⟨w.heap.size + 1 + 1, 0, none⟩ (.int .i64 (C : Int))).setCell ⟨w.heap.size + 1 + 1, 1, none⟩ (.int .i64 (R : Int))).heap := by rw [← hV0]; rfl
    rw [h3]
    simpa using h2
  rw [hV0]
  clear hFV hV0 fz0 fz1 gA gR gX gO hF1 hF3 hFW hW k0 k1 k2 l0 l1 l2 hz hz' hz'' HZ hR
  go_wp2_with fail
  go_loopg [4] C (fun gh iv wr => ∃ (i : Nat) (so : Option Addr) (sc : Nat), i ≤ C ∧ gh = C - i ∧ iv = .int .i64 (i : Int) ∧ Hid (TuI w b off cap R C L (i * R) so sc wr))
  case atStart => exact ⟨0, none, 0, Nat.zero_le _, rfl, rfl, HT0⟩
  case round =>
    rename World => wx
    obtain ⟨i, so, sc, hiC, rfl, rfl, HT⟩ := hrel
    have x0 := HT.out.u.d0; have x1 := HT.out.u.d1
    by_cases hlt : i < C
    · go_wp2_with fail
      go_loopg [5] R (fun gh kv wr => ∃ (k : Nat) (so : Option Addr) (sc : Nat), k ≤ R ∧ gh = R - k ∧ kv = .int .i64 (k : Int) ∧ Hid (TuI w b off cap R C L (i * R + k) so sc wr))
      case atStart => exact ⟨0, so, sc, Nat.zero_le _, rfl, rfl, HT⟩
      case round =>
        clear x0 x1
        obtain ⟨k, so, sc, hkR, rfl, rfl, HI⟩ := hrel
        have x0 := HI.out.u.d0; have x1 := HI.out.u.d1
        by_cases hlk : k < R
        · have x2 := HI.out.u.d2
          have y0 := HI.out.a.d0; have y1 := HI.out.a.d1; have y2 := HI.out.a.d2
          have HY : Hid (∀ V, Fr noB wr V → V.cell? ⟨w.heap.size + 1 + 1, 2, none⟩ = some (.slice so (i * R + k) sc) ∧ V.cell? ⟨w.heap.size, 0, none⟩ = some (.int .i64 (R : Int)) ∧ V.cell? ⟨w.heap.size, 1, none⟩ = some (.int .i64 (C : Int)) ∧ V.cell? ⟨w.heap.size, 2, none⟩ = some (.slice (some ⟨b, off, none⟩) L.length cap)) := fun V h => ⟨(HI.out.u.fr h id).d2, (HI.out.a.fr h id).d0, (HI.out.a.fr h id).d1, (HI.out.a.fr h id).d2⟩
          have hkL : k * C + i < L.length := by rw [HLm.out]; exact turn_of hlt hlk
          have hm1 : i * R + k < R * C := turn_at hlt hlk
          have hm2 := Hrc.out
          obtain ⟨v, hv⟩ : ∃ v, L[k * C + i] = v := ⟨_, rfl⟩
          have HT : Hid ((turnN R C L).take (i * R + k + 1) = (turnN R C L).take (i * R + k) ++ [v]) := by rw [← hv]; exact turn_snoc L hlt hlk hkL
          have HCa : Hid (∀ V, Fr noB wr V → Calls Tryz.prog 40 #[.agg #[.int .i64 (R : Int), .int .i64 (C : Int), .slice (some ⟨b, off, none⟩) L.length cap], .int .i64 (k : Int), .int .i64 (i : Int)] V fun e w' => e = .returned (.agg #[.int .i64 v.k, .float .f64 v.n, .string v.s, .bool v.y, .int .i64 v.e]) ∧ Fr noB V w') := fun V h => HAt.out V (HI.out.fr.trans h) i k v hkL hlt hlk hv
          obtain ⟨vk, vn, vs, vy, ve⟩ := v
          obtain ⟨m, hmm⟩ : ∃ m, i * R + k = m := ⟨_, rfl⟩
          have HMM : Hid (i * R + k = m) := hmm
          rw [hmm] at x2 hm1 HT HI HY
          clear hv hkL hmm
          go_wp2_with fail
          go_region_law (first
            | (go_simp; go_at_call 40; with_reducible refine (HCa.out _ (by repeat first | exact Fr.refl _ _ | refine Fr.drew ?_ | refine Fr.drewN ?_ _)).mono ?_; rintro e w2 ⟨rfl, hF2⟩; have hG2 : Fr noB wr w2 := Fr.trans (by repeat first | exact Fr.refl _ _ | refine Fr.drew ?_ | refine Fr.drewN ?_ _) hF2; have c2 := (HI.out.u.fr hG2 id).d2; have q0 := (HI.out.a.fr hG2 id).d0; have q1 := (HI.out.a.fr hG2 id).d1; have q2 := (HI.out.a.fr hG2 id).d2; have c2a : (w2.alloc (.cells #[.int .i64 vk, .float .f64 vn, .string vs, .bool vy, .int .i64 ve] 37 (0, 0))).cell? ⟨w.heap.size + 1 + 1, 2, none⟩ = some (.slice so m sc) := (HI.out.u.fr (hG2.alloc _) id).d2; have hO2 := own_keep HI.out.own (hG2.alloc (.cells #[.int .i64 vk, .float .f64 vn, .string vs, .bool vy, .int .i64 ve] 37 (0, 0))); have hs2 : w.heap.size + 1 + 1 + 1 ≤ w2.heap.size := Nat.le_trans (lt_of_block HI.out.u.o) hG2.size)
            | (refine step_append_lies _ rfl _ _ 25 rfl (w.heap.size + 1 + 1 + 1) 37 i0 (.agg #[.int .i64 0, .float .f64 0, .string ⟨#[]⟩, .bool false, .int .i64 0]) 5 48 Tryz.underlying25 hi hz0 hz1 hz2 rfl (by decide) _ m (vsC ((turnN R C L).take m)) rfl hO2 ⟨w2.heap.size, 0, none⟩ 1 1 (vC ⟨vk, vn, vs, vy, ve⟩) rfl rfl (World.news_of_block (heap_alloc_new w2 (.cells #[.int .i64 vk, .float .f64 vn, .string vs, .bool vy, .int .i64 ve] 37 (0, 0)))) (vC_oneCell _) (by decide) (by omega) (by omega) (by simp; omega) (w2.heap.size + 1) (by simp) ?_; intro g cap1 w3 hown3 hg3 _ _; have hF4 : Fr (fun j => (Value.slice so m sc).ownBlock = some j) wr w3 := ((hG2.weak).alloc (.cells #[.int .i64 vk, .float .f64 vn, .string vs, .bool vy, .int .i64 ve] 37 (0, 0))).grown hg3 (fun k hk => Or.inl hk); have hu3 := HI.out.u.fr hF4 (fun hh => by have := own_base HI.out.own _ hh; omega); have c3 := hu3.d2; have fz3 := freeOf 2 hu3.o))
          all_goals
            have HTs : Hid (TuI w b off cap R C L (i * R + (k + 1)) (some ⟨g, 0, none⟩) cap1 (w3.setCell ⟨w.heap.size + 1 + 1, 2, none⟩ (.slice (some ⟨g, 0, none⟩) (m + 1) cap1))) := by
              rw [← Nat.add_assoc, HMM.out]
              exact HI.out.step hF4 hown3 HT.out
            clear hF4 hown3 hg3 hu3 c3 fz3 c2 c2a q0 q1 q2 hO2 hF2 hG2 hs2
            go_wp2_with fail
            go_roundg (R - (k + 1))
            case measure => omega
            case rel => exact ⟨k + 1, some ⟨g, 0, none⟩, cap1, by omega, rfl, by go_num, HTs⟩
        · obtain rfl : k = R := by omega
          have HI2 : Hid (TuI w b off cap k C L ((i + 1) * k) so sc wr) := by rw [← turn_row]; exact HI.out
          go_wp2_with fail
          go_roundg (C - (i + 1))
          case measure => omega
          case rel => exact ⟨i + 1, so, sc, by omega, rfl, by go_num, HI2⟩
    · obtain rfl : i = C := by omega
      have x2 := HT.out.u.d2
      go_wp2_with (refine wpList_store_arr rfl (.tmp 2) (.tmp 48) rfl (w.heap.size + 1) (i : Int) (R : Int) so (i * R) sc rfl rfl HT.out.o ?_; intro W6 hW6 hFW6)
      obtain ⟨so2, sc2, he, hv⟩ := own_vs HT.out.own (by rw [turn_all, turn_len, Nat.mul_comm])
      injection he with he1 _ _
      rw [← he1, turn_all] at hv
      refine bodyPost_ret (aret Tryz.results18 _ _ _ rfl hW6) rfl ⟨so, sc, rfl, hv.keep1 hFW6 (fun b o hb => ?_), HT.out.fr.new hFW6 (by omega)⟩
      have := own_base HT.out.own b (by subst hb; rfl)
      omega
#print axioms rturn_ok
end Go.Proofs.YtpjbobbmldplbaaGreatDoor
/- The document's Turn of an array that may not be. -/
namespace Go.Proofs.YtpjbobbmldplbaaGreatDoor
open Go.RowKit Ieee Go.Shelf
attribute [local go_sem] run_store_float

set_option maxRecDepth 100000 in
theorem rturn_no (r c : Int) (ad : Addr) (cap : Nat) (L : List Vv) (w : World) (hA : VsAt w (some ad) L) (hl : L.length * 48 ≤ 140737488355328) (hV : ∀ y ∈ L, Vok y) (hU : U8 w) (E : Int) (hE : arrF ckV r c L = E) (hne : E ≠ 0)
    (hN : ∀ W, Fr noB w W → ∀ j u, (vsC L)[j]? = some u → W.cell? (ad.add j) = some u) :
    Calls Tryz.prog 18 #[.agg #[.int .i64 r, .int .i64 c, .slice (some ad) L.length cap]] w fun e w' => ∃ so sc, e = .returned (.agg #[.int .i64 r, .int .i64 c, .slice so L.length sc]) ∧ VsAt w' so L ∧ Fr noB w w' := by
  have hm : maxLen = 9223372036854775807 := rfl
  obtain ⟨i0, hi, hz0, hz1, hz2⟩ := info_parts Tryz.infoV
  obtain ⟨W0, hW0⟩ : ∃ W0, ((w.alloc (.cells #[.int .i64 r, .int .i64 c, .slice (some ad) L.length cap] 27 (0, 0))).alloc (.cells #[.int .i64 0, .int .i64 0, .slice none 0 0] 27 (0, 0))).alloc (.cells #[.int .i64 0, .int .i64 0, .slice none 0 0] 27 (0, 0)) = W0 := ⟨_, rfl⟩
  have hX : AAt W0 w.heap.size r c (some ad) L.length cap := by rw [← hW0]; exact ⟨old1 (old1 (new1 _ _ _ rfl))⟩
  have hO : AAt W0 (w.heap.size + 1) 0 0 none 0 0 := by rw [← hW0]; exact ⟨old1 (new1 _ _ _ (by simp))⟩
  have hR : AAt W0 (w.heap.size + 1 + 1) 0 0 none 0 0 := by rw [← hW0]; exact ⟨new1 _ _ _ (by simp)⟩
  have hF : Fr noB w W0 := by rw [← hW0]; exact (((Fr.refl noB w).alloc _).alloc _).alloc _
  have hs : W0.heap.size = w.heap.size + 1 + 1 + 1 := by rw [← hW0]; simp
  have HC : Hid (∀ W, Fr noB w W → Calls Tryz.prog 29 #[.agg #[.int .i64 r, .int .i64 c, .slice (some ad) L.length cap]] W fun e w' => e = .returned (.int .i64 E) ∧ Fr noB W w') := fun W h => by
    have hh := rcheckA r c (some ad) cap L W (hA.keep h) hV (hU.fr h)
    rw [hE] at hh
    exact hh
  have q2 : (E != 0) = true := by simpa using hne
  have HL : Hid ((vsC L).length = L.length * 5) := vsC_len L
  have HH : Hid (AAt W0 w.heap.size r c (some ad) L.length cap ∧ AAt W0 (w.heap.size + 1) 0 0 none 0 0 ∧ Fr noB w W0 ∧ W0.heap.size = w.heap.size + 1 + 1 + 1) := ⟨hX, hO, hF, hs⟩
  have HW0 : Hid _ := hW0
  rw [← hW0] at hR
  have HN : Hid (∀ W, Fr noB w W → ∀ j u, (vsC L)[j]? = some u → W.cell? (ad.add j) = some u) := hN
  clear hX hO hF hs hW0 hA hV hU hE hne hN
  go_enter Tryz.func18, Tryz.ntmps18
  go_wp2_with (first
    | (refine wpList_store_arr rfl (.tmp 3) (.tmp 10) rfl (w.heap.size + 1 + 1) r c none 0 0 rfl rfl hR ?_; rw [HW0.out]; intro W hW hFW
       have hF3 := HH.out.2.2.1.new hFW (by omega)
       have gX := HH.out.1.fr hFW (by simp [oneB]; omega)
       have gO := HH.out.2.1.fr hFW (by simp [oneB])
       have g0 := cellOf (o := 0) gX.o rfl; have g1 := cellOf (o := 1) gX.o rfl; have g2 := cellOf (o := 2) gX.o rfl)
    | (go_at_call 29; refine (HC.out _ hF3).mono ?_; rintro e w1 ⟨rfl, hF1⟩
       have gA := gX.fr hF1 id; have k0 := cellOf (o := 0) gA.o rfl; have k1 := cellOf (o := 1) gA.o rfl; have k2 := cellOf (o := 2) gA.o rfl
       have gR := hW.fr hF1 id; have l0 := cellOf (o := 0) gR.o rfl; have l1 := cellOf (o := 1) gR.o rfl; have l2 := cellOf (o := 2) gR.o rfl
       have hz := hFW.size; have hz' := hF1.size; have hz'' := HH.out.2.2.2
       have hown : w1.ownsRow (w.heap.size + 1 + 1 + 1) 37 5 (.slice none 0 0) 0 [] := ⟨rfl, .inl ⟨rfl, rfl⟩⟩
       have hNw := HN.out _ (hF3.trans hF1)
       clear g0 g1 g2)
    | (at_builtin; refine wpList_append_own _ rfl (.tmp 15) (.tmp 17) 25 rfl (w.heap.size + 1 + 1 + 1) 37 i0 (.agg #[.int .i64 0, .float .f64 0, .string ⟨#[]⟩, .bool false, .int .i64 0]) 5 48 Tryz.underlying25 hi hz0 hz1 hz2 rfl (by decide) _ 0 [] rfl hown ad L.length cap (vsC L) rfl HL.out hNw (vsC_oneCell L) (by omega) (by omega) (by omega) ?_))
  intro v3 w3 hown3 hg3 _
  have hown3 : w3.ownsRow (w.heap.size + 1 + 1 + 1) 37 5 v3 L.length (vsC L) := by first | exact hown3 | simpa only [Nat.zero_add, List.nil_append] using hown3
  obtain ⟨so, sc, rfl⟩ := own_slice hown3
  have HF4 : Hid (Fr noB w1 w3) := (Fr.refl noB w1).grown hg3 (by simp [Value.ownBlock])
  have gR3 := gR.fr HF4.out id
  have gO3 := (gO.fr hF1 id).fr HF4.out id
  have l0 := cellOf (o := 0) gR3.o rfl; have l1 := cellOf (o := 1) gR3.o rfl; have l2 := cellOf (o := 2) gR3.o rfl
  have fz : w3.frozen? ⟨w.heap.size + 1 + 1, 2, none⟩ = false := freeOf 2 gR3.o
  have HV : Hid (VsAt w3 so L ∧ ∀ b o, so = some ⟨b, o, none⟩ → w.heap.size + 1 + 1 + 1 ≤ b) := by
    obtain ⟨so2, sc2, he, hv⟩ := own_vs hown3 rfl
    injection he with he1 _ _
    rw [← he1] at hv
    exact ⟨hv, fun b o hb => by subst hb; exact own_base hown3 b rfl⟩
  have HF5 : Hid (Fr (oneB (w.heap.size + 1 + 1)) w3 (w3.setCell ⟨w.heap.size + 1 + 1, 2, none⟩ (.slice so L.length sc))) := (Fr.refl _ w3).setOne 2 _
  have gO5 := gO3.fr HF5.out (by simp [oneB])
  have gR5 : AAt (w3.setCell ⟨w.heap.size + 1 + 1, 2, none⟩ (.slice so L.length sc)) (w.heap.size + 1 + 1) r c so L.length sc := ⟨by
    have hh := heap_setCell_same w3 (w.heap.size + 1 + 1) 2 _ _ (.slice so L.length sc) gR3.o
    simpa using hh⟩
  obtain ⟨W5, hW5⟩ : ∃ W5, w3.setCell ⟨w.heap.size + 1 + 1, 2, none⟩ (.slice so L.length sc) = W5 := ⟨_, rfl⟩
  rw [hW5] at gR5 gO5 HF5
  have m0 := cellOf (o := 0) gR5.o rfl; have m1 := cellOf (o := 1) gR5.o rfl; have m2 := cellOf (o := 2) gR5.o rfl
  have HW5 : Hid _ := hW5
  clear k0 k1 k2 hW5
  go_wp2_with (first
    | (rw [HW5.out])
    | (refine wpList_store_arr rfl (.tmp 2) (.tmp 20) rfl (w.heap.size + 1) r c so L.length sc rfl rfl gO5 ?_; intro W6 hW6 hFW6))
  refine bodyPost_ret (aret Tryz.results18 _ _ _ rfl hW6) rfl ⟨so, sc, rfl, (HV.out.1.keep1 HF5.out (fun b o hb => ?_)).keep1 hFW6 (fun b o hb => ?_), ?_⟩
  · have := HV.out.2 b o hb
    omega
  · have := HV.out.2 b o hb
    omega
  · exact (((hF3.trans hF1).trans HF4.out).new HF5.out (by omega)).new hFW6 (by omega)
#print axioms rturn_no
end Go.Proofs.YtpjbobbmldplbaaGreatDoor
