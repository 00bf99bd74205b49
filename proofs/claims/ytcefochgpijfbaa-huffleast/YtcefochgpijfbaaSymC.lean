/- The contract of the sort's symmetric merge, both parts of two or more. Written by symgen.py. -/
import Derived.Test.YtcefochgpijfbaaSym
import Derived.Test.YtcefochgpijfbaaSymB
namespace Go.Proofs.Ytcefochgpijfbaa
open Go.RowKit

/-- The contract at ranges shorter than z. -/
def SymAt (g cap N z : Nat) : Prop := ∀ (a m b : Nat) (D : List PV) (w : World), b - a < z → PRow w g D → AllSl D → D.length = N → a < m → m < b → b ≤ N → SortP D a m → SortP D m b →
    Calls Try.prog 32 #[.slice (some ⟨g, 0, none⟩) N cap, .int .i64 (a : Int), .int .i64 (m : Int), .int .i64 (b : Int), .func (.func 18) #[] #[]] w fun e w' => e = .returned (.tuple #[]) ∧ ∃ E, PRow w' g E ∧ Like a b D E ∧ SortP E a b ∧ Fr (oneB g) w w'

set_option maxRecDepth 100000 in
set_option maxHeartbeats 3200000 in
theorem symAbove_any (g cap N z a m b mid n p lo hi : Nat) (hrec : SymAt g cap N z) (hz : b - a ≤ z) (D : List PV) (w : World) (h : PRow w g D) (hS : AllSl D) (hN : D.length = N) (ham : a + 1 < m) (hmb : m + 1 < b) (hb : b ≤ N) (hl : N ≤ 100000) (h1 : SortP D a m) (h2 : SortP D m b)
    (hmid : mid = (a + b) / 2) (hn : n = mid + m) (hp : p + 1 = n) (hc : mid < m) (hlo : lo = mid + m - b) (hhi : mid = hi) :
    Calls Try.prog 32 #[.slice (some ⟨g, 0, none⟩) N cap, .int .i64 (a : Int), .int .i64 (m : Int), .int .i64 (b : Int), .func (.func 18) #[] #[]] w fun e w' => e = .returned (.tuple #[]) ∧ ∃ E, PRow w' g E ∧ Like a b D E ∧ SortP E a b ∧ Fr (oneB g) w w' := by
  have HN : Hid (D.length = N) := hN
  have HR : Hid (SymAt g cap N z) := hrec
  have hI0 : ¬ (m : Int) - (a : Int) = 1 := by omega
  have hI0b : ((m : Int) - (a : Int) == 1) = false := by simp; omega
  have hI1 : ¬ (b : Int) - (m : Int) = 1 := by omega
  have hI1b : ((b : Int) - (m : Int) == 1) = false := by simp; omega
  have hmidI : ((a : Int) + (b : Int)) / 2 = (mid : Int) := by omega
  have hnI : (mid : Int) + (m : Int) = (n : Int) := by omega
  have hpI : (n : Int) - 1 = (p : Int) := by omega
  have hcI : (mid : Int) < (m : Int) := by omega
  have hnb : n ≤ 300000 ∧ mid < b ∧ a < mid ∧ p ≤ 300000 := by omega
  have hloI : (n : Int) - (b : Int) = (lo : Int) := by omega
  have HM : Hid (mid = (a + b) / 2 ∧ n = mid + m ∧ p + 1 = n) := ⟨hmid, hn, hp⟩
  have HL : Hid (mid < m ∧ lo = mid + m - b ∧ hi = mid ∨ m ≤ mid ∧ lo = a ∧ hi = m) := by exact Or.inl ⟨hc, hlo, hhi.symm⟩
  have HB : Hid (lo ≤ hi ∧ ∀ c, lo ≤ c → c < hi → c < b ∧ c ≤ p ∧ p - c < b) := ⟨by omega, fun c c1 c2 => by omega⟩
  have HSo : Hid (SortP D a m ∧ SortP D m b) := ⟨h1, h2⟩
  clear hN hmid hn hp hrec h1 h2
  subst hhi
  clear hlo
  go_enter Try.func32, Try.ntmps32
  go_wp2_with fail
  go_loopg [20, 21] (mid - lo) (fun gh sv rv wr => ∃ (s r : Nat), gh = r - s ∧ sv = .int .i64 (s : Int) ∧ rv = .int .i64 (r : Int) ∧ PRow wr g D ∧ FindC D lo mid n s r ∧ Fr (oneB g) w wr)
  case atStart => exact ⟨lo, mid, rfl, by go_num, rfl, h, ⟨Nat.le_refl _, HB.out.1, Nat.le_refl _, fun h => by omega, fun h => by omega⟩, Fr.refl _ _⟩
  case round =>
    clear h
    obtain ⟨s, r, rfl, rfl, rfl, hP, hf, hF⟩ := hrel
    have hNl := HN.out
    by_cases hlt : s < r
    · obtain ⟨c, hk⟩ : ∃ c, (s + r) / 2 = c := ⟨_, rfl⟩
      have hkI : ((s : Int) + (r : Int)) / 2 = (c : Int) := by omega
      have hfb := And.intro hf.1 (And.intro hf.2.1 hf.2.2.1)
      have hik : s ≤ c := by omega
      have hkj : c < r := by omega
      have hBc := HB.out.2 c (by omega) (by omega)
      obtain ⟨q, hq⟩ : ∃ q, p - c = q := ⟨_, rfl⟩
      have hwr : IntKind.i64.wrap ((p : Int) - (c : Int)) = (q : Int) := by rw [IntKind.wrap_i64]; omega
      have hwr2 : (p : Int) - (c : Int) = (q : Int) := by omega
      have hwr3 : IntKind.i64.wrap (q : Int) = (q : Int) := by rw [IntKind.wrap_i64]; omega
      have hqN : (q : Int) < (N : Int) := by omega
      have hq0 : (0 : Int) ≤ (q : Int) := by omega
      have hcN : (c : Int) < (N : Int) := by omega
      have hc0 : (0 : Int) ≤ (c : Int) := by omega
      have hqN' : q < N := by omega
      have hcN' : c < N := by omega
      have HX : Hid (((at_ D q).1 < (at_ D c).1 → FindC D lo mid n s c) ∧ (¬ (at_ D q).1 < (at_ D c).1 → FindC D lo mid n (c + 1) r)) := by
        obtain ⟨f1, f2, f3, f4, f5⟩ := hf
        have hM := HM.out
        exact ⟨fun h => ⟨f1, hik, by omega, f4, fun _ => by rw [show n - 1 - c = q by omega]; exact h⟩, fun h => ⟨by omega, by omega, f3, fun _ => by rw [show n - (c + 1) = q by omega]; show (at_ D c).1 ≤ _; omega, f5⟩⟩
      obtain ⟨a1, l1, q1, e1, c11, c12⟩ := hP.two hS q (by omega)
      obtain ⟨a2, l2, q2, e2, c21, c22⟩ := hP.two hS c (by omega)
      have d11 : wr.drew.cell? ⟨g, q * 2, none⟩ = _ := c11
      have d12 : wr.drew.cell? ⟨g, q * 2 + 1, none⟩ = _ := c12
      have d21 : wr.drew.cell? ⟨g, c * 2, none⟩ = _ := c21
      have d22 : wr.drew.cell? ⟨g, c * 2 + 1, none⟩ = _ := c22
      have hglt : g < wr.heap.size := by obtain ⟨_, hh⟩ := hP; exact lt_of_block hh
      clear e1 e2 hNl hf hk hq
      generalize (at_ D q).1 = x1 at *
      generalize (at_ D c).1 = x2 at *
      by_cases hx : x1 < x2
      · have hst := HX.out.1 hx
        go_wp2_with fail
        go_region_held3 (fun w' => w'.cell? ⟨g, q * 2, none⟩ = some (.int .i64 (x1 : Int)) ∧ w'.cell? ⟨g, q * 2 + 1, none⟩ = some (.slice a1 l1 q1) ∧ w'.cell? ⟨g, c * 2, none⟩ = some (.int .i64 (x2 : Int)) ∧ w'.cell? ⟨g, c * 2 + 1, none⟩ = some (.slice a2 l2 q2))
          (first | exact ⟨d11, d12, d21, d22⟩ | exact ⟨z11, z12, z21, z22⟩)
          (first | (go_at_call 18; refine (light_lt x1 x2 a1 a2 l1 q1 l2 q2 _ hx).mono ?_; rintro e w2 ⟨rfl, hF2⟩; have z11 := (hF2.cell (a := ⟨g, q * 2, none⟩) hglt id).trans d11; have z12 := (hF2.cell (a := ⟨g, q * 2 + 1, none⟩) hglt id).trans d12; have z21 := (hF2.cell (a := ⟨g, c * 2, none⟩) hglt id).trans d21; have z22 := (hF2.cell (a := ⟨g, c * 2 + 1, none⟩) hglt id).trans d22))
        have hF2' : Fr noB wr w2 := ((Fr.refl noB wr).drew).trans hF2
        have hP2 := hP.keep hF2' id
        have hFw : Fr (oneB g) w w2 := hF.trans hF2'.weak
        clear c11 c12 c21 c22 d11 d12 d21 d22 hF2 hF2' hP hF HX
        go_wp2_with fail
        go_roundg (c - s)
        case measure => omega
        case rel => exact ⟨s, c, rfl, rfl, rfl, hP2, hst, hFw⟩
      · have hst := HX.out.2 hx
        go_wp2_with fail
        go_region_held3 (fun w' => w'.cell? ⟨g, q * 2, none⟩ = some (.int .i64 (x1 : Int)) ∧ w'.cell? ⟨g, q * 2 + 1, none⟩ = some (.slice a1 l1 q1) ∧ w'.cell? ⟨g, c * 2, none⟩ = some (.int .i64 (x2 : Int)) ∧ w'.cell? ⟨g, c * 2 + 1, none⟩ = some (.slice a2 l2 q2))
          (first | exact ⟨d11, d12, d21, d22⟩ | exact ⟨z11, z12, z21, z22⟩)
          (first | (go_at_call 18; refine (light_ge x1 x2 a1 a2 l1 q1 l2 q2 _ hx).mono ?_; rintro e w2 ⟨v, rfl, hv, hF2⟩; have z11 := (hF2.cell (a := ⟨g, q * 2, none⟩) hglt id).trans d11; have z12 := (hF2.cell (a := ⟨g, q * 2 + 1, none⟩) hglt id).trans d12; have z21 := (hF2.cell (a := ⟨g, c * 2, none⟩) hglt id).trans d21; have z22 := (hF2.cell (a := ⟨g, c * 2 + 1, none⟩) hglt id).trans d22))
        have hF2' : Fr noB wr w2 := ((Fr.refl noB wr).drew).trans hF2
        have hP2 := hP.keep hF2' id
        have hr0 : ¬ (v : Int) < 0 := by omega
        have hFw : Fr (oneB g) w w2 := hF.trans hF2'.weak
        clear c11 c12 c21 c22 d11 d12 d21 d22 hF2 hF2' hP hF HX
        go_wp2_with fail
        go_roundg (r - (c + 1))
        case measure => omega
        case rel => exact ⟨c + 1, r, rfl, by go_num, rfl, hP2, hst, hFw⟩
    · obtain rfl : s = r := by have := hf.2.1; omega
      obtain ⟨t, ht⟩ : ∃ t, t = n - s := ⟨_, rfl⟩
      have HC : Hid (∀ E, (∀ i, at_ E i = at_ D (rho s m t i)) → SortP E a s ∧ SortP E s mid ∧ SortP E mid t ∧ SortP E t b ∧ ∀ i j, a ≤ i → i < mid → mid ≤ j → j < b → (at_ E i).1 ≤ (at_ E j).1) := fun E hE => by
        obtain ⟨m1, m2, m3⟩ := HM.out
        subst m2 ht
        exact (cut_sorted HSo.out.1 HSo.out.2 (by omega) (by omega) m1 (by have := HL.out; omega) hf hE).2.2.2.2.2.2
      have hbd : a ≤ s ∧ s ≤ m ∧ s ≤ mid ∧ m ≤ t ∧ mid ≤ t ∧ t ≤ b ∧ (s < m ↔ mid < t) ∧ (s < mid ↔ m < t) ∧ s ≤ n := by
        have hM := HM.out
        have hLo := HL.out
        have f1 := hf.1
        have f2 := hf.2.2.1
        omega
      obtain ⟨b1, b2, b3, b4, b5, b6, b7, b8, b9⟩ := hbd
      have htI : (n : Int) - (s : Int) = (t : Int) := by omega
      have HRo : Hid (s < m → m < t → Calls Try.prog 34 #[.slice (some ⟨g, 0, none⟩) N cap, .int .i64 (s : Int), .int .i64 (m : Int), .int .i64 (t : Int), .func (.func 18) #[] #[]] wr fun e w' => e = .returned (.tuple #[]) ∧ ∃ E, PRow w' g E ∧ Like s t D E ∧ (∀ i, at_ E i = at_ D (rho s m t i)) ∧ Fr (oneB g) wr w') := fun r1 r2 => by
        have := rotate_any g cap s m t (.func (.func 18) #[] #[]) D wr hP hS r1 r2 (by omega) (by omega)
        rwa [HN.out] at this
      have Hz : Hid (b - a ≤ z ∧ a < mid ∧ mid < b) := ⟨hz, by omega, by omega⟩
      clear hlt hf ht hz
      have p1 : s < m := by omega
      by_cases p2 : m < t
      · by_cases p3 : a < s
        · by_cases p4 : t < b
          · have g1 : (s : Int) < (m : Int) := by omega
            have g2 : (m : Int) < (t : Int) := by omega
            have g3 : (a : Int) < (s : Int) := by omega
            have g4 : (s : Int) < (mid : Int) := by omega
            have g5 : (mid : Int) < (t : Int) := by omega
            have g6 : (t : Int) < (b : Int) := by omega
            have HBd : Hid ((a ≤ s ∧ s ≤ m ∧ s ≤ mid ∧ m ≤ t ∧ mid ≤ t ∧ t ≤ b) ∧ s < m ∧ m < t ∧ a < s ∧ t < b ∧ b ≤ N) := ⟨⟨b1, b2, b3, b4, b5, b6⟩, p1, p2, p3, p4, hb⟩
            clear b1 b2 b3 b4 b5 b6 b7 b8 b9 p1 p2 p3 p4
            go_wp2_with fail
            refine (HRo.out HBd.out.2.1 HBd.out.2.2.1).mono ?_
            rintro e w2 ⟨rfl, E, hPE, hLE, hAE, hFE⟩
            have hLa : Like a b D E := hLE.mono HBd.out.1.1 HBd.out.1.2.2.2.2.2
            have hFE2 := hF.trans hFE
            have hSE := hS.perm hLa.perm
            have hEl : E.length = N := hLa.length.trans HN.out
            obtain ⟨s1, s2, s3, s4, s5⟩ := HC.out E hAE
            have HE : Hid (E.length = N) := hEl
            have hca := HR.out a s mid E w2 (by have := Hz.out; have := HBd.out; omega) hPE hSE hEl (by have := HBd.out; omega) (by have := HBd.out; omega) (by have := HBd.out; omega) s1 s2
            clear hEl
            go_wp2_with fail
            refine hca.mono ?_
            rintro e w3 ⟨rfl, G, hPG, hLG, hSoG, hFG⟩
            have hFG2 := hFE2.trans hFG
            have hSG := hSE.perm hLG.perm
            have hGl : G.length = N := hLG.length.trans HE.out
            have s3' : SortP G mid t := s3.same fun i i1 i2 => hLG.out i (Or.inr i1)
            have s4' : SortP G t b := s4.same fun i i1 i2 => hLG.out i (Or.inr (by have := HBd.out; omega))
            have hcb := HR.out mid t b G w3 (by have := Hz.out; have := HBd.out; omega) hPG hSG hGl (by have := HBd.out; omega) (by have := HBd.out; omega) (by have := HBd.out; omega) s3' s4'
            clear hGl
            go_wp2_with fail
            refine hcb.mono ?_
            rintro e w4 ⟨rfl, H, hPH, hLH, hSoH, hFH⟩
            have hFH2 := hFG2.trans hFH
            go_wp2_with fail
            go_end0
            have hfin := halves_sorted (by have := HBd.out; have := Hz.out; omega) (by have := Hz.out; omega) s5 hLG hSoG hLH hSoH
            exact ⟨rfl, H, hPH, hLa.trans hfin.1, hfin.2, hFH2⟩
          · have g1 : (s : Int) < (m : Int) := by omega
            have g2 : (m : Int) < (t : Int) := by omega
            have g3 : (a : Int) < (s : Int) := by omega
            have g4 : (s : Int) < (mid : Int) := by omega
            have g5 : (mid : Int) < (t : Int) := by omega
            have g6 : ¬ (t : Int) < (b : Int) := by omega
            have HBd : Hid ((a ≤ s ∧ s ≤ m ∧ s ≤ mid ∧ m ≤ t ∧ mid ≤ t ∧ t ≤ b) ∧ s < m ∧ m < t ∧ a < s ∧ ¬ t < b ∧ b ≤ N) := ⟨⟨b1, b2, b3, b4, b5, b6⟩, p1, p2, p3, p4, hb⟩
            clear b1 b2 b3 b4 b5 b6 b7 b8 b9 p1 p2 p3 p4
            go_wp2_with fail
            refine (HRo.out HBd.out.2.1 HBd.out.2.2.1).mono ?_
            rintro e w2 ⟨rfl, E, hPE, hLE, hAE, hFE⟩
            have hLa : Like a b D E := hLE.mono HBd.out.1.1 HBd.out.1.2.2.2.2.2
            have hFE2 := hF.trans hFE
            have hSE := hS.perm hLa.perm
            have hEl : E.length = N := hLa.length.trans HN.out
            obtain ⟨s1, s2, s3, s4, s5⟩ := HC.out E hAE
            have HE : Hid (E.length = N) := hEl
            have hca := HR.out a s mid E w2 (by have := Hz.out; have := HBd.out; omega) hPE hSE hEl (by have := HBd.out; omega) (by have := HBd.out; omega) (by have := HBd.out; omega) s1 s2
            clear hEl
            go_wp2_with fail
            refine hca.mono ?_
            rintro e w3 ⟨rfl, G, hPG, hLG, hSoG, hFG⟩
            have hFG2 := hFE2.trans hFG
            have hSG := hSE.perm hLG.perm
            have hGl : G.length = N := hLG.length.trans HE.out
            have s3' : SortP G mid t := s3.same fun i i1 i2 => hLG.out i (Or.inr i1)
            have s4' : SortP G t b := s4.same fun i i1 i2 => hLG.out i (Or.inr (by have := HBd.out; omega))
            clear hGl
            obtain ⟨H, hH⟩ : ∃ H, H = G := ⟨_, rfl⟩
            have hPH : PRow w3 g H := by rw [hH]; exact hPG
            have hLH : Like mid b G H := by rw [hH]; exact Like.refl
            have hSoH : SortP H mid b := by rw [hH]; exact s3'.sub (Nat.le_refl _) (by have := HBd.out; omega)
            have hFH2 := hFG2
            go_wp2_with fail
            go_end0
            have hfin := halves_sorted (by have := HBd.out; have := Hz.out; omega) (by have := Hz.out; omega) s5 hLG hSoG hLH hSoH
            exact ⟨rfl, H, hPH, hLa.trans hfin.1, hfin.2, hFH2⟩
        · have p4 : ¬ t < b := by omega
          have g1 : (s : Int) < (m : Int) := by omega
          have g2 : (m : Int) < (t : Int) := by omega
          have g3 : ¬ (a : Int) < (s : Int) := by omega
          have g4 : (s : Int) < (mid : Int) := by omega
          have g5 : (mid : Int) < (t : Int) := by omega
          have g6 : ¬ (t : Int) < (b : Int) := by omega
          have HBd : Hid ((a ≤ s ∧ s ≤ m ∧ s ≤ mid ∧ m ≤ t ∧ mid ≤ t ∧ t ≤ b) ∧ s < m ∧ m < t ∧ ¬ a < s ∧ ¬ t < b ∧ b ≤ N) := ⟨⟨b1, b2, b3, b4, b5, b6⟩, p1, p2, p3, p4, hb⟩
          clear b1 b2 b3 b4 b5 b6 b7 b8 b9 p1 p2 p3 p4
          go_wp2_with fail
          refine (HRo.out HBd.out.2.1 HBd.out.2.2.1).mono ?_
          rintro e w2 ⟨rfl, E, hPE, hLE, hAE, hFE⟩
          have hLa : Like a b D E := hLE.mono HBd.out.1.1 HBd.out.1.2.2.2.2.2
          have hFE2 := hF.trans hFE
          have hSE := hS.perm hLa.perm
          have hEl : E.length = N := hLa.length.trans HN.out
          obtain ⟨s1, s2, s3, s4, s5⟩ := HC.out E hAE
          have HE : Hid (E.length = N) := hEl
          clear hEl
          obtain ⟨G, hG⟩ : ∃ G, G = E := ⟨_, rfl⟩
          have hPG : PRow w2 g G := by rw [hG]; exact hPE
          have hLG : Like a mid E G := by rw [hG]; exact Like.refl
          have hSoG : SortP G a mid := by rw [hG]; exact s2.sub (by have := HBd.out; omega) (Nat.le_refl _)
          have hFG2 := hFE2
          have hSG := hSE.perm hLG.perm
          have hGl : G.length = N := hLG.length.trans HE.out
          have s3' : SortP G mid t := s3.same fun i i1 i2 => hLG.out i (Or.inr i1)
          have s4' : SortP G t b := s4.same fun i i1 i2 => hLG.out i (Or.inr (by have := HBd.out; omega))
          clear hGl
          obtain ⟨H, hH⟩ : ∃ H, H = G := ⟨_, rfl⟩
          have hPH : PRow w2 g H := by rw [hH]; exact hPG
          have hLH : Like mid b G H := by rw [hH]; exact Like.refl
          have hSoH : SortP H mid b := by rw [hH]; exact s3'.sub (Nat.le_refl _) (by have := HBd.out; omega)
          have hFH2 := hFG2
          go_wp2_with fail
          go_end0
          have hfin := halves_sorted (by have := HBd.out; have := Hz.out; omega) (by have := Hz.out; omega) s5 hLG hSoG hLH hSoH
          exact ⟨rfl, H, hPH, hLa.trans hfin.1, hfin.2, hFH2⟩
      · have p3 : a < s := by omega
        have p4 : t < b := by omega
        have g1 : (s : Int) < (m : Int) := by omega
        have g2 : ¬ (m : Int) < (t : Int) := by omega
        have g3 : (a : Int) < (s : Int) := by omega
        have g4 : ¬ (s : Int) < (mid : Int) := by omega
        have g5 : (mid : Int) < (t : Int) := by omega
        have g6 : (t : Int) < (b : Int) := by omega
        have HBd : Hid ((a ≤ s ∧ s ≤ m ∧ s ≤ mid ∧ m ≤ t ∧ mid ≤ t ∧ t ≤ b) ∧ s < m ∧ ¬ m < t ∧ a < s ∧ t < b ∧ b ≤ N) := ⟨⟨b1, b2, b3, b4, b5, b6⟩, p1, p2, p3, p4, hb⟩
        clear b1 b2 b3 b4 b5 b6 b7 b8 b9 p1 p2 p3 p4
        go_wp2_with fail
        obtain ⟨E, hE⟩ : ∃ E, E = D := ⟨_, rfl⟩
        have hPE : PRow wr g E := by rw [hE]; exact hP
        have hLa : Like a b D E := by rw [hE]; exact Like.refl
        have hAE : ∀ i, at_ E i = at_ D (rho s m t i) := fun i => by rw [rho_none s m t i (by have := HBd.out; omega), hE]
        have hFE2 := hF
        have hSE := hS.perm hLa.perm
        have hEl : E.length = N := hLa.length.trans HN.out
        obtain ⟨s1, s2, s3, s4, s5⟩ := HC.out E hAE
        have HE : Hid (E.length = N) := hEl
        clear hEl
        obtain ⟨G, hG⟩ : ∃ G, G = E := ⟨_, rfl⟩
        have hPG : PRow wr g G := by rw [hG]; exact hPE
        have hLG : Like a mid E G := by rw [hG]; exact Like.refl
        have hSoG : SortP G a mid := by rw [hG]; exact s1.sub (Nat.le_refl _) (by have := HBd.out; omega)
        have hFG2 := hFE2
        have hSG := hSE.perm hLG.perm
        have hGl : G.length = N := hLG.length.trans HE.out
        have s3' : SortP G mid t := s3.same fun i i1 i2 => hLG.out i (Or.inr i1)
        have s4' : SortP G t b := s4.same fun i i1 i2 => hLG.out i (Or.inr (by have := HBd.out; omega))
        have hcb := HR.out mid t b G wr (by have := Hz.out; have := HBd.out; omega) hPG hSG hGl (by have := HBd.out; omega) (by have := HBd.out; omega) (by have := HBd.out; omega) s3' s4'
        clear hGl
        refine hcb.mono ?_
        rintro e w4 ⟨rfl, H, hPH, hLH, hSoH, hFH⟩
        have hFH2 := hFG2.trans hFH
        go_wp2_with fail
        go_end0
        have hfin := halves_sorted (by have := HBd.out; have := Hz.out; omega) (by have := Hz.out; omega) s5 hLG hSoG hLH hSoH
        exact ⟨rfl, H, hPH, hLa.trans hfin.1, hfin.2, hFH2⟩
#print axioms symAbove_any
end Go.Proofs.Ytcefochgpijfbaa
