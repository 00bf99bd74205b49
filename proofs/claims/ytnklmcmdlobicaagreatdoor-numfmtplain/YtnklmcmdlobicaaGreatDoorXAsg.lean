/- Assign of a decimal: its contract. -/
import Derived.Test.YtnklmcmdlobicaaGreatDoorXLsh
namespace Go.Proofs.YtnklmcmdlobicaaGreatDoor
open Go.RowKit
/-- Block g holds the bytes U (a buffer of 24). -/
def BufAt (w : World) (g : Nat) (U : List Nat) : Prop := w.heap[g]? = some (.cells (U.map (fun x : Nat => Value.int .u8 (x : Int))).toArray 182 (0, 0)) ∧ U.length = 24
theorem BufAt.cell {w : World} {g : Nat} {U : List Nat} (h : BufAt w g U) (i : Nat) (hi : i < 24) : w.cell? ⟨g, i, none⟩ = some (.int .u8 ((U.getD i 0 : Nat) : Int)) := by
  refine cellOf h.1 ?_
  rw [List.getElem?_toArray, List.getElem?_map, List.getElem?_eq_getElem (by have := h.2; omega)]
  simp [List.getD, show i < U.length by have := h.2; omega]
theorem BufAt.set {w : World} {g : Nat} {U : List Nat} (h : BufAt w g U) (i v : Nat) : BufAt (w.setCell ⟨g, i, none⟩ (.int .u8 (v : Int))) g (U.set i v) := by
  have e := setOf i (.int .u8 (v : Int)) h.1
  rw [List.setIfInBounds_toArray] at e
  refine ⟨?_, by rw [List.length_set]; exact h.2⟩
  rw [List.map_set]
  exact e
theorem BufAt.set_ne {w : World} {g c o : Nat} {v : Value} {U : List Nat} (h : BufAt w g U) (hne : g ≠ c) : BufAt (w.setCell ⟨c, o, none⟩ v) g U := by
  refine ⟨?_, h.2⟩
  rw [Below.heap_setCell _ _ _ _ hne]
  exact h.1
theorem DecAt.set_ne {w : World} {b c o : Nat} {v : Value} {C : List Nat} {nd dp : Int} {tr : Bool} (h : DecAt w b C nd dp tr) (hne : b ≠ c) : DecAt (w.setCell ⟨c, o, none⟩ v) b C nd dp tr := by
  refine ⟨?_, h.2⟩
  rw [Below.heap_setCell _ _ _ _ hne]
  exact h.1
set_option maxRecDepth 100000 in
set_option maxHeartbeats 2000000 in
theorem asg_any (b u : Nat) (C : List Nat) (nd dp : Int) (tr : Bool) (w : World) (hD : DecAt w b C nd dp tr) (hu : u < 18446744073709551616) :
    Calls Tryz.prog 180 #[.pointer (some ⟨b, 0, none⟩), .int .u64 (u : Int)] w fun e w' => e = .returned (.tuple #[]) ∧ DecIs w' b (asgD u).1 (asgD u).2 ∧ Fr (oneB b) w w' := by
  have hbw : b < w.heap.size := lt_of_block hD.1
  obtain ⟨B, hB⟩ : ∃ B, w.heap.size = B := ⟨_, rfl⟩
  go_enter Tryz.func180, Tryz.ntmps180
  go_wp2_with fail
  go_loopg [1, 5] 20 (fun f vv nv wr => ∃ (i v : Nat) (U A : List Nat), vv = .int .u64 (v : Int) ∧ nv = .int .i64 (i : Int) ∧ v < 18446744073709551616 ∧ i + f ≤ 20 ∧ BufAt wr B U ∧ DecAt wr b C nd dp tr ∧ Fr (oneB b) w wr ∧ Hid (A.length = i ∧ (∀ j (h : j < A.length), U.getD j 0 = 48 + A[j]) ∧ v < 10 ^ f ∧ ls2 20 u = A ++ ls2 f v))
  case atStart =>
    refine ⟨0, u, List.replicate 24 0, [], rfl, rfl, hu, by omega, ⟨?_, by simp⟩, ⟨(Below.heap_alloc _ _ _ hbw).trans hD.1, hD.2⟩, (Fr.refl _ _).alloc _, ⟨rfl, fun j h => absurd h (by simp), by omega, rfl⟩⟩
    rw [← hB]
    exact heap_alloc_new _ _
  case round =>
    clear hD
    obtain ⟨i, v, U, A, rfl, rfl, hv, hi, hU, hD, hF, HA⟩ := hrel
    by_cases hv0 : v = 0
    · subst hv0
      have HLO : Hid (ls2 20 u = A ∧ A.length = i ∧ (∀ j (h : j < A.length), U.getD j 0 = 48 + A[j]) ∧ ∀ x ∈ A, x ≤ 9) := by
        obtain ⟨a1, a2, a3, a4⟩ := HA.out
        have e : ls2 20 u = A := by rw [a4, ls2_zero, List.append_nil]
        refine ⟨e, a1, a2, ?_⟩
        rw [← e]
        exact (ls2_spec 20 u (by omega)).2.1
      have c8 := hD.nd
      have fr8 := hD.free 800
      have HD0 : Hid (DecAt (wr.setCell ⟨b, 800, none⟩ (.int .i64 0)) b C 0 dp tr) := hD.setnd 0
      have HU0 : Hid (BufAt (wr.setCell ⟨b, 800, none⟩ (.int .i64 0)) B U) := hU.set_ne (by omega)
      have HF0 : Hid (Fr (oneB b) w (wr.setCell ⟨b, 800, none⟩ (.int .i64 0))) := hF.setOne _ _
      clear HA hD hU hF
      go_wp2_with fail
      go_loopg [5] i (fun j nv wr => ∃ (t : Nat) (C2 : List Nat), nv = .int .i64 ((j : Int) - 1) ∧ j + t = i ∧ BufAt wr B U ∧ DecAt wr b C2 (t : Int) dp tr ∧ Fr (oneB b) w wr ∧ Hid (∀ p (h : p < A.length), p < t → C2.getD p 0 = 48 + A[A.length - 1 - p]))
      case atStart => exact ⟨0, C, rfl, rfl, HU0.out, HD0.out, HF0.out, fun p _ h => absurd h (by omega)⟩
      case round =>
        clear HD0 HU0 HF0 c8 fr8
        obtain ⟨t, C2, rfl, hjt, hU, hD, hF, HP⟩ := hrel
        have c8 := hD.nd
        have fr8 := hD.free 800
        have ht : t ≤ 20 := by omega
        cases gk with
        | zero =>
          obtain rfl : t = i := by omega
          have hD3 := hD.setdp (t : Int)
          have HF3 : Hid (Fr (oneB b) w (wr.setCell ⟨b, 801, none⟩ (.int .i64 (t : Int)))) := hF.setOne _ _
          obtain ⟨l1, l2, l3, l4⟩ := HLO.out
          have hl : A.reverse.length = t := by rw [List.length_reverse]; exact l2
          have hdig : DigsC C2 A.reverse := by
            refine ⟨by omega, fun p hp => ?_⟩
            rw [hl] at hp
            rw [HP.out p (by omega) hp, List.getElem_reverse]
          have HTR := dtrim_any b C2 A.reverse (t : Int) tr _ (by rw [hl]; exact hD3) hdig (fun x hx => l4 x (List.mem_reverse.mp hx))
          have HE : Hid (asgD u = trimP A.reverse (t : Int)) := by
            show _ = _
            unfold asgD
            rw [l1, l2]
          have cp := hD.dp
          have frp := hD.free 801
          clear l1 l2 l3 l4 hl hdig hD3 hD hU hF HP HLO
          go_wp2_with (go_at_call 222; refine HTR.mono ?_; rintro e w4 ⟨rfl, hI, hF4⟩)
          go_end0
          rw [HE.out]
          exact ⟨rfl, hI, HF3.out.trans hF4⟩
        | succ j =>
          have hjA : j < A.length := by have := HLO.out.2.1; omega
          have cb := hU.cell j (by omega)
          rw [HLO.out.2.2.1 j hjA] at cb
          have hx9 := HLO.out.2.2.2 _ (List.getElem_mem hjA)
          have HX : Hid (48 + A[A.length - 1 - t]'(by omega) = 48 + A[j]) := by
            show _ = _
            congr 2
            have := HLO.out.2.1
            omega
          obtain ⟨X, hX⟩ : ∃ X, 48 + A[j] = X := ⟨_, rfl⟩
          rw [hX] at cb HX
          have hXb : X ≤ 57 := by omega
          have cw := hD.cell t (by omega)
          have fw := hD.free t
          have ht8 : t < 800 := by omega
          have hj24 : j < 24 := by omega
          have e5 : ((j + 1 : Nat) : Int) - 1 = (j : Int) := by omega
          have hDd : DecAt wr.drew b C2 (t : Int) dp tr := hD
          have hUd : BufAt wr.drew B U := hU
          have c81 := (hDd.set t X (by omega)).nd
          have f81 := (hDd.set t X (by omega)).free 800
          have HD3 : Hid (DecAt ((wr.drew.setCell ⟨b, t, none⟩ (.int .u8 (X : Int))).setCell ⟨b, 800, none⟩ (.int .i64 ((t : Int) + 1))) b (C2.set t X) ((t : Int) + 1) dp tr) := (hDd.set t X (by omega)).setnd _
          have HU3 : Hid (BufAt ((wr.drew.setCell ⟨b, t, none⟩ (.int .u8 (X : Int))).setCell ⟨b, 800, none⟩ (.int .i64 ((t : Int) + 1))) B U) := (hUd.set_ne (by omega)).set_ne (by omega)
          have HF3 : Hid (Fr (oneB b) w ((wr.drew.setCell ⟨b, t, none⟩ (.int .u8 (X : Int))).setCell ⟨b, 800, none⟩ (.int .i64 ((t : Int) + 1)))) := (hF.drew.setOne _ _).setOne _ _
          have HP3 : Hid (∀ p (h : p < A.length), p < t + 1 → (C2.set t X).getD p 0 = 48 + A[A.length - 1 - p]) := by
            intro p h hp
            by_cases e : p = t
            · subst e
              rw [getD_set_eq _ _ _ (by rw [hD.2]; omega)]
              exact HX.out.symm
            · rw [getD_set_ne _ _ _ _ e]
              exact HP.out p h (by omega)
          clear HP hD hU hDd hUd hF HX hX hx9 HLO
          go_wp2_with fail
          go_region
          go_wp2_with fail
          go_roundg j
          case measure => omega
          case rel => exact ⟨t + 1, _, by go_num, by omega, HU3.out, HD3.out, HF3.out, HP3⟩
    · have hv1 : 0 < (v : Int) := by omega
      cases gk with
      | zero => exact absurd (show v = 0 by have := HA.out.2.2.1; simp at this; exact this) hv0
      | succ g =>
        have HL2 : Hid (ls2 20 u = (A ++ [v % 10]) ++ ls2 g (v / 10)) := by
          show _ = _
          rw [HA.out.2.2.2, List.append_assoc]
          show A ++ (if v = 0 then [] else _) = _
          rw [if_neg hv0]
          rfl
        have HQ : Hid (v / 10 < 10 ^ g) := by
          show _ < _
          have := HA.out.2.2.1
          rw [Nat.pow_succ] at this
          omega
        obtain ⟨q, hq⟩ : ∃ q, v / 10 = q := ⟨_, rfl⟩
        obtain ⟨rm, hrm⟩ : ∃ rm, v % 10 = rm := ⟨_, rfl⟩
        rw [hq, hrm] at HL2
        rw [hq] at HQ
        have e3 : (v : Int) / 10 = (q : Int) := by omega
        have e4 : (v : Int) - 10 * (q : Int) = (rm : Int) := by omega
        have hqb : q < 18446744073709551616 := by omega
        have hqb2 : 10 * q < 18446744073709551616 := by omega
        have hrb : rm ≤ 9 := by omega
        obtain ⟨Q, hQ⟩ : ∃ Q, 48 + rm = Q := ⟨_, rfl⟩
        have eq1 : (rm : Int) + 48 = (Q : Int) := by omega
        have hQb : Q ≤ 57 := by omega
        have hi24 : i < 24 := by omega
        have cw := hU.cell i hi24
        have fw := freeOf i hU.1
        have HU3 : Hid (BufAt (wr.setCell ⟨B, i, none⟩ (.int .u8 (Q : Int))) B (U.set i Q)) := hU.set i Q
        have HD3 : Hid (DecAt (wr.setCell ⟨B, i, none⟩ (.int .u8 (Q : Int))) b C nd dp tr) := hD.set_ne (by omega)
        have HF3 : Hid (Fr (oneB b) w (wr.setCell ⟨B, i, none⟩ (.int .u8 (Q : Int)))) := hF.setCell ⟨B, i, none⟩ (Or.inr (by show w.heap.size ≤ B; omega)) _
        have HA3 : Hid ((A ++ [rm]).length = i + 1 ∧ ∀ j (h : j < (A ++ [rm]).length), (U.set i Q).getD j 0 = 48 + (A ++ [rm])[j]) := by
          refine ⟨by simp [HA.out.1], ?_⟩
          rw [← hQ]
          exact digs_snoc U A rm i HA.out.1 (by rw [hU.2]; exact hi24) HA.out.2.1
        clear HA hU hD hF hq hrm hQ
        go_wp2_with fail
        go_roundg g
        case measure => omega
        case rel => exact ⟨i + 1, q, _, A ++ [rm], rfl, by go_num, hqb, by omega, HU3.out, HD3.out, HF3.out, ⟨HA3.out.1, HA3.out.2, HQ.out, HL2.out⟩⟩
#print axioms asg_any
end Go.Proofs.YtnklmcmdlobicaaGreatDoor
