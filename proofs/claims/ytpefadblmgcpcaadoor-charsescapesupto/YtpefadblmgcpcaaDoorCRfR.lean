/- References: the document's side. -/
import Derived.Test.YtpefadblmgcpcaaDoorCNbW
import Derived.Deep.RegionHeld3
import Derived.Deep.DrawnRows
namespace Go.Proofs.YtpefadblmgcpcaaDoor
open Go.RowKit Go.Shelf

theorem nbF_bound (T : ByteArray) : 0 ≤ (nbF T).2.1 ∧ (nbF T).2.1 ≤ (T.size : Int) := by
  unfold nbF
  split
  · exact ⟨by decide, by simp⟩
  · rename_i h
    have h2 : (scanF T (basF T).1 (basF T).2 0).1 < T.size := by
      rcases Nat.lt_or_ge (scanF T (basF T).1 (basF T).2 0).1 T.size with h' | h'
      · exact h'
      · exact absurd (Or.inr (Or.inl (by omega))) h
    simp only
    omega
/-- Does a text begin with these bytes? -/
def bg (S : ByteArray) (l : List UInt8) : Bool := decide (l.length ≤ S.size) && ((S.extract 0 l.length).toList == l)
/-- What a reference says, by its number of a name on. -/
def rf5 (S : ByteArray) : ByteArray × Int × Bool := if S.size ≠ 0 ∧ (S.get! 0).toNat = 35 then ((nbF (S.extract 1 S.size)).1, (nbF (S.extract 1 S.size)).2.1 + 1, (nbF (S.extract 1 S.size)).2.2) else (⟨#[]⟩, 0, false)
def rf4 (S : ByteArray) : ByteArray × Int × Bool := if bg S [97, 112, 111, 115, 59] then (⟨#[39]⟩, 5, true) else rf5 S
def rf3 (S : ByteArray) : ByteArray × Int × Bool := if bg S [113, 117, 111, 116, 59] then (⟨#[34]⟩, 5, true) else rf4 S
def rf2 (S : ByteArray) : ByteArray × Int × Bool := if bg S [103, 116, 59] then (⟨#[62]⟩, 3, true) else rf3 S
def rf1 (S : ByteArray) : ByteArray × Int × Bool := if bg S [108, 116, 59] then (⟨#[60]⟩, 3, true) else rf2 S
def rf0 (S : ByteArray) : ByteArray × Int × Bool := if bg S [97, 109, 112, 59] then (⟨#[38]⟩, 4, true) else rf1 S
def rfN (S : ByteArray) : Nat → ByteArray × Int × Bool
  | 0 => rf0 S
  | 1 => rf1 S
  | 2 => rf2 S
  | 3 => rf3 S
  | 4 => rf4 S
  | _ => rf5 S
set_option maxRecDepth 100000 in
set_option maxHeartbeats 4000000 in
theorem rref_any (S : ByteArray) (w : World) (hs : S.size ≤ 1048576) : Calls Tryd.prog 50 #[.string S] w fun e w' => e = .returned (.tuple #[.string (rf0 S).1, .int .i64 (rf0 S).2.1, .bool (rf0 S).2.2]) ∧ Fr noB w w' := by
  obtain ⟨R, hR⟩ : ∃ R, rf0 S = R := ⟨_, rfl⟩
  rw [hR]
  have HN : Hid (rfN S 0 = R) := hR
  clear hR
  have hc0 : ∀ j v, (#[.string ⟨#[97, 109, 112, 59]⟩, .string ⟨#[108, 116, 59]⟩, .string ⟨#[103, 116, 59]⟩, .string ⟨#[113, 117, 111, 116, 59]⟩, .string ⟨#[97, 112, 111, 115, 59]⟩] : Array Value)[j]? = some v → ((w.alloc (.cells #[.string ⟨#[97, 109, 112, 59]⟩, .string ⟨#[108, 116, 59]⟩, .string ⟨#[103, 116, 59]⟩, .string ⟨#[113, 117, 111, 116, 59]⟩, .string ⟨#[97, 112, 111, 115, 59]⟩] 80 (0, 0))).alloc (.cells #[.string ⟨#[38]⟩, .string ⟨#[60]⟩, .string ⟨#[62]⟩, .string ⟨#[34]⟩, .string ⟨#[39]⟩] 80 (0, 0))).cell? ⟨w.heap.size, j, none⟩ = some v := fun j v hv => cellOf ((Below.heap_alloc _ _ _ (by simp)).trans (heap_alloc_new w _)) hv
  have hc1 : ∀ j v, (#[.string ⟨#[38]⟩, .string ⟨#[60]⟩, .string ⟨#[62]⟩, .string ⟨#[34]⟩, .string ⟨#[39]⟩] : Array Value)[j]? = some v → ((w.alloc (.cells #[.string ⟨#[97, 109, 112, 59]⟩, .string ⟨#[108, 116, 59]⟩, .string ⟨#[103, 116, 59]⟩, .string ⟨#[113, 117, 111, 116, 59]⟩, .string ⟨#[97, 112, 111, 115, 59]⟩] 80 (0, 0))).alloc (.cells #[.string ⟨#[38]⟩, .string ⟨#[60]⟩, .string ⟨#[62]⟩, .string ⟨#[34]⟩, .string ⟨#[39]⟩] 80 (0, 0))).cell? ⟨w.heap.size + 1, j, none⟩ = some v := fun j v hv => cellOf (by have := heap_alloc_new (w.alloc (.cells #[.string ⟨#[97, 109, 112, 59]⟩, .string ⟨#[108, 116, 59]⟩, .string ⟨#[103, 116, 59]⟩, .string ⟨#[113, 117, 111, 116, 59]⟩, .string ⟨#[97, 112, 111, 115, 59]⟩] 80 (0, 0))) (.cells #[.string ⟨#[38]⟩, .string ⟨#[60]⟩, .string ⟨#[62]⟩, .string ⟨#[34]⟩, .string ⟨#[39]⟩] 80 (0, 0)); simpa using this) hv
  have hF0 : Fr noB w ((w.alloc (.cells #[.string ⟨#[97, 109, 112, 59]⟩, .string ⟨#[108, 116, 59]⟩, .string ⟨#[103, 116, 59]⟩, .string ⟨#[113, 117, 111, 116, 59]⟩, .string ⟨#[97, 112, 111, 115, 59]⟩] 80 (0, 0))).alloc (.cells #[.string ⟨#[38]⟩, .string ⟨#[60]⟩, .string ⟨#[62]⟩, .string ⟨#[34]⟩, .string ⟨#[39]⟩] 80 (0, 0))) := ((Fr.refl noB w).alloc _).alloc _
  have n0 := hc0 0 _ rfl
  have s0 := hc1 0 _ rfl
  have n1 := hc0 1 _ rfl
  have s1 := hc1 1 _ rfl
  have n2 := hc0 2 _ rfl
  have s2 := hc1 2 _ rfl
  have n3 := hc0 3 _ rfl
  have s3 := hc1 3 _ rfl
  have n4 := hc0 4 _ rfl
  have s4 := hc1 4 _ rfl
  clear hc0 hc1
  go_enter Tryd.func50, Tryd.ntmps50
  go_wp2_with fail
  generalize (w.alloc (.cells #[.string ⟨#[97, 109, 112, 59]⟩, .string ⟨#[108, 116, 59]⟩, .string ⟨#[103, 116, 59]⟩, .string ⟨#[113, 117, 111, 116, 59]⟩, .string ⟨#[97, 112, 111, 115, 59]⟩] 80 (0, 0))).alloc (.cells #[.string ⟨#[38]⟩, .string ⟨#[60]⟩, .string ⟨#[62]⟩, .string ⟨#[34]⟩, .string ⟨#[39]⟩] 80 (0, 0)) = W at *
  go_loopw [7] (fun iv wr => ∃ k m : Nat, k ≤ 5 ∧ iv = .int .i64 (k : Int) ∧ wr = W.drewN m ∧ Hid (rfN S k = R)) (fun iv _ => 5 - (intOf iv).toNat)
  case atStart => exact ⟨0, 0, by omega, rfl, rfl, HN⟩
  case round =>
    clear HN
    obtain ⟨k, m, hk, rfl, rfl, HC⟩ := hrel
    have hFm : Fr noB w (W.drewN m) := hF0.drewN m
    have hFm1 : Fr noB w (W.drewN m).drew := hFm.drew
    have hFm2 : Fr noB w (W.drewN m).drew.drew := hFm.drew.drew
    have hk5 : k = 0 ∨ k = 1 ∨ k = 2 ∨ k = 3 ∨ k = 4 ∨ k = 5 := by omega
    clear hk
    rcases hk5 with rfl | rfl | rfl | rfl | rfl | rfl
    · have HC2 := HC.out
      simp only [rfN, rf0] at HC2
      have a0 : (W.drewN m).cell? ⟨w.heap.size, 0, none⟩ = _ := n0
      have a1 : (W.drewN m).drew.cell? ⟨w.heap.size, 0, none⟩ = _ := n0
      have a2 : (W.drewN m).drew.drew.cell? ⟨w.heap.size, 0, none⟩ = _ := n0
      have b0 : (W.drewN m).cell? ⟨w.heap.size + 1, 0, none⟩ = _ := s0
      have b1 : (W.drewN m).drew.cell? ⟨w.heap.size + 1, 0, none⟩ = _ := s0
      have b2 : (W.drewN m).drew.drew.cell? ⟨w.heap.size + 1, 0, none⟩ = _ := s0
      clear n0 n1 n2 n3 n4 s0 s1 s2 s3 s4
      generalize hV : W.drewN m = V at *
      by_cases hz : 4 ≤ S.size
      · have hzz : (4 : Int) ≤ (S.size : Int) := by omega
        cases hb : ((S.extract 0 4).toList == [97, 109, 112, 59]) with
        | true =>
          have HX : Hid (R = (⟨#[38]⟩, 4, true)) := by
            show R = _
            rw [← HC2, if_pos]
            unfold bg
            rw [show (List.length ([97, 109, 112, 59] : List UInt8)) = 4 from rfl, hb, decide_eq_true hz]
            rfl
          clear HC HC2
          go_wp2_with fail
          go_region_held3 (fun w' => w'.cell? ⟨w.heap.size, 0, none⟩ = some (.string ⟨#[97, 109, 112, 59]⟩) ∧ w'.cell? ⟨w.heap.size + 1, 0, none⟩ = some (.string ⟨#[38]⟩)) (first | exact ⟨a0, b0⟩ | exact ⟨a1, b1⟩ | exact ⟨a2, b2⟩) (fail)
          go_wp2_with fail
          go_region_held3 (fun w' => w'.cell? ⟨w.heap.size, 0, none⟩ = some (.string ⟨#[97, 109, 112, 59]⟩) ∧ w'.cell? ⟨w.heap.size + 1, 0, none⟩ = some (.string ⟨#[38]⟩)) (first | exact ⟨a0, b0⟩ | exact ⟨a1, b1⟩ | exact ⟨a2, b2⟩) (fail)
          go_wp2_with fail
          go_ret3
          rw [HX.out]
          exact ⟨rfl, hFm2⟩
        | false =>
          have HX : Hid (rfN S 1 = R) := by
            show _ = R
            rw [← HC2, if_neg]
            · rfl
            · unfold bg
              rw [show (List.length ([97, 109, 112, 59] : List UInt8)) = 4 from rfl, hb]
              simp
          clear HC HC2
          go_wp2_with fail
          go_region_held3 (fun w' => w'.cell? ⟨w.heap.size, 0, none⟩ = some (.string ⟨#[97, 109, 112, 59]⟩) ∧ w'.cell? ⟨w.heap.size + 1, 0, none⟩ = some (.string ⟨#[38]⟩)) (first | exact ⟨a0, b0⟩ | exact ⟨a1, b1⟩ | exact ⟨a2, b2⟩) (fail)
          go_wp2_with fail
          go_roundw
          case rel => exact ⟨1, m + 1, by omega, rfl, by rw [← hV]; rfl, HX⟩
          case measure => simp [intOf]
      · have hzz : ¬ (4 : Int) ≤ (S.size : Int) := by omega
        have hzl : (S.size : Int) < 4 := by omega
        have hzn : S.size < 4 := by omega
        have hzb : decide ((4 : Int) ≤ (S.size : Int)) = false := decide_eq_false hzz
        have hzc : decide (4 ≤ S.size) = false := decide_eq_false hz
        have HX : Hid (rfN S 1 = R) := by
          show _ = R
          rw [← HC2, if_neg]
          · rfl
          · unfold bg
            rw [show (List.length ([97, 109, 112, 59] : List UInt8)) = 4 from rfl, decide_eq_false hz]
            simp
        clear HC HC2
        go_wp2_with fail
        go_region
        go_wp2_with fail
        go_roundw
        case rel => exact ⟨1, m + 1, by omega, rfl, by rw [← hV]; rfl, HX⟩
        case measure => simp [intOf]
    · have HC2 := HC.out
      simp only [rfN, rf1] at HC2
      have a0 : (W.drewN m).cell? ⟨w.heap.size, 1, none⟩ = _ := n1
      have a1 : (W.drewN m).drew.cell? ⟨w.heap.size, 1, none⟩ = _ := n1
      have a2 : (W.drewN m).drew.drew.cell? ⟨w.heap.size, 1, none⟩ = _ := n1
      have b0 : (W.drewN m).cell? ⟨w.heap.size + 1, 1, none⟩ = _ := s1
      have b1 : (W.drewN m).drew.cell? ⟨w.heap.size + 1, 1, none⟩ = _ := s1
      have b2 : (W.drewN m).drew.drew.cell? ⟨w.heap.size + 1, 1, none⟩ = _ := s1
      clear n0 n1 n2 n3 n4 s0 s1 s2 s3 s4
      generalize hV : W.drewN m = V at *
      by_cases hz : 3 ≤ S.size
      · have hzz : (3 : Int) ≤ (S.size : Int) := by omega
        cases hb : ((S.extract 0 3).toList == [108, 116, 59]) with
        | true =>
          have HX : Hid (R = (⟨#[60]⟩, 3, true)) := by
            show R = _
            rw [← HC2, if_pos]
            unfold bg
            rw [show (List.length ([108, 116, 59] : List UInt8)) = 3 from rfl, hb, decide_eq_true hz]
            rfl
          clear HC HC2
          go_wp2_with fail
          go_region_held3 (fun w' => w'.cell? ⟨w.heap.size, 1, none⟩ = some (.string ⟨#[108, 116, 59]⟩) ∧ w'.cell? ⟨w.heap.size + 1, 1, none⟩ = some (.string ⟨#[60]⟩)) (first | exact ⟨a0, b0⟩ | exact ⟨a1, b1⟩ | exact ⟨a2, b2⟩) (fail)
          go_wp2_with fail
          go_region_held3 (fun w' => w'.cell? ⟨w.heap.size, 1, none⟩ = some (.string ⟨#[108, 116, 59]⟩) ∧ w'.cell? ⟨w.heap.size + 1, 1, none⟩ = some (.string ⟨#[60]⟩)) (first | exact ⟨a0, b0⟩ | exact ⟨a1, b1⟩ | exact ⟨a2, b2⟩) (fail)
          go_wp2_with fail
          go_ret3
          rw [HX.out]
          exact ⟨rfl, hFm2⟩
        | false =>
          have HX : Hid (rfN S 2 = R) := by
            show _ = R
            rw [← HC2, if_neg]
            · rfl
            · unfold bg
              rw [show (List.length ([108, 116, 59] : List UInt8)) = 3 from rfl, hb]
              simp
          clear HC HC2
          go_wp2_with fail
          go_region_held3 (fun w' => w'.cell? ⟨w.heap.size, 1, none⟩ = some (.string ⟨#[108, 116, 59]⟩) ∧ w'.cell? ⟨w.heap.size + 1, 1, none⟩ = some (.string ⟨#[60]⟩)) (first | exact ⟨a0, b0⟩ | exact ⟨a1, b1⟩ | exact ⟨a2, b2⟩) (fail)
          go_wp2_with fail
          go_roundw
          case rel => exact ⟨2, m + 1, by omega, rfl, by rw [← hV]; rfl, HX⟩
          case measure => simp [intOf]
      · have hzz : ¬ (3 : Int) ≤ (S.size : Int) := by omega
        have hzl : (S.size : Int) < 3 := by omega
        have hzn : S.size < 3 := by omega
        have hzb : decide ((3 : Int) ≤ (S.size : Int)) = false := decide_eq_false hzz
        have hzc : decide (3 ≤ S.size) = false := decide_eq_false hz
        have HX : Hid (rfN S 2 = R) := by
          show _ = R
          rw [← HC2, if_neg]
          · rfl
          · unfold bg
            rw [show (List.length ([108, 116, 59] : List UInt8)) = 3 from rfl, decide_eq_false hz]
            simp
        clear HC HC2
        go_wp2_with fail
        go_region
        go_wp2_with fail
        go_roundw
        case rel => exact ⟨2, m + 1, by omega, rfl, by rw [← hV]; rfl, HX⟩
        case measure => simp [intOf]
    · have HC2 := HC.out
      simp only [rfN, rf2] at HC2
      have a0 : (W.drewN m).cell? ⟨w.heap.size, 2, none⟩ = _ := n2
      have a1 : (W.drewN m).drew.cell? ⟨w.heap.size, 2, none⟩ = _ := n2
      have a2 : (W.drewN m).drew.drew.cell? ⟨w.heap.size, 2, none⟩ = _ := n2
      have b0 : (W.drewN m).cell? ⟨w.heap.size + 1, 2, none⟩ = _ := s2
      have b1 : (W.drewN m).drew.cell? ⟨w.heap.size + 1, 2, none⟩ = _ := s2
      have b2 : (W.drewN m).drew.drew.cell? ⟨w.heap.size + 1, 2, none⟩ = _ := s2
      clear n0 n1 n2 n3 n4 s0 s1 s2 s3 s4
      generalize hV : W.drewN m = V at *
      by_cases hz : 3 ≤ S.size
      · have hzz : (3 : Int) ≤ (S.size : Int) := by omega
        cases hb : ((S.extract 0 3).toList == [103, 116, 59]) with
        | true =>
          have HX : Hid (R = (⟨#[62]⟩, 3, true)) := by
            show R = _
            rw [← HC2, if_pos]
            unfold bg
            rw [show (List.length ([103, 116, 59] : List UInt8)) = 3 from rfl, hb, decide_eq_true hz]
            rfl
          clear HC HC2
          go_wp2_with fail
          go_region_held3 (fun w' => w'.cell? ⟨w.heap.size, 2, none⟩ = some (.string ⟨#[103, 116, 59]⟩) ∧ w'.cell? ⟨w.heap.size + 1, 2, none⟩ = some (.string ⟨#[62]⟩)) (first | exact ⟨a0, b0⟩ | exact ⟨a1, b1⟩ | exact ⟨a2, b2⟩) (fail)
          go_wp2_with fail
          go_region_held3 (fun w' => w'.cell? ⟨w.heap.size, 2, none⟩ = some (.string ⟨#[103, 116, 59]⟩) ∧ w'.cell? ⟨w.heap.size + 1, 2, none⟩ = some (.string ⟨#[62]⟩)) (first | exact ⟨a0, b0⟩ | exact ⟨a1, b1⟩ | exact ⟨a2, b2⟩) (fail)
          go_wp2_with fail
          go_ret3
          rw [HX.out]
          exact ⟨rfl, hFm2⟩
        | false =>
          have HX : Hid (rfN S 3 = R) := by
            show _ = R
            rw [← HC2, if_neg]
            · rfl
            · unfold bg
              rw [show (List.length ([103, 116, 59] : List UInt8)) = 3 from rfl, hb]
              simp
          clear HC HC2
          go_wp2_with fail
          go_region_held3 (fun w' => w'.cell? ⟨w.heap.size, 2, none⟩ = some (.string ⟨#[103, 116, 59]⟩) ∧ w'.cell? ⟨w.heap.size + 1, 2, none⟩ = some (.string ⟨#[62]⟩)) (first | exact ⟨a0, b0⟩ | exact ⟨a1, b1⟩ | exact ⟨a2, b2⟩) (fail)
          go_wp2_with fail
          go_roundw
          case rel => exact ⟨3, m + 1, by omega, rfl, by rw [← hV]; rfl, HX⟩
          case measure => simp [intOf]
      · have hzz : ¬ (3 : Int) ≤ (S.size : Int) := by omega
        have hzl : (S.size : Int) < 3 := by omega
        have hzn : S.size < 3 := by omega
        have hzb : decide ((3 : Int) ≤ (S.size : Int)) = false := decide_eq_false hzz
        have hzc : decide (3 ≤ S.size) = false := decide_eq_false hz
        have HX : Hid (rfN S 3 = R) := by
          show _ = R
          rw [← HC2, if_neg]
          · rfl
          · unfold bg
            rw [show (List.length ([103, 116, 59] : List UInt8)) = 3 from rfl, decide_eq_false hz]
            simp
        clear HC HC2
        go_wp2_with fail
        go_region
        go_wp2_with fail
        go_roundw
        case rel => exact ⟨3, m + 1, by omega, rfl, by rw [← hV]; rfl, HX⟩
        case measure => simp [intOf]
    · have HC2 := HC.out
      simp only [rfN, rf3] at HC2
      have a0 : (W.drewN m).cell? ⟨w.heap.size, 3, none⟩ = _ := n3
      have a1 : (W.drewN m).drew.cell? ⟨w.heap.size, 3, none⟩ = _ := n3
      have a2 : (W.drewN m).drew.drew.cell? ⟨w.heap.size, 3, none⟩ = _ := n3
      have b0 : (W.drewN m).cell? ⟨w.heap.size + 1, 3, none⟩ = _ := s3
      have b1 : (W.drewN m).drew.cell? ⟨w.heap.size + 1, 3, none⟩ = _ := s3
      have b2 : (W.drewN m).drew.drew.cell? ⟨w.heap.size + 1, 3, none⟩ = _ := s3
      clear n0 n1 n2 n3 n4 s0 s1 s2 s3 s4
      generalize hV : W.drewN m = V at *
      by_cases hz : 5 ≤ S.size
      · have hzz : (5 : Int) ≤ (S.size : Int) := by omega
        cases hb : ((S.extract 0 5).toList == [113, 117, 111, 116, 59]) with
        | true =>
          have HX : Hid (R = (⟨#[34]⟩, 5, true)) := by
            show R = _
            rw [← HC2, if_pos]
            unfold bg
            rw [show (List.length ([113, 117, 111, 116, 59] : List UInt8)) = 5 from rfl, hb, decide_eq_true hz]
            rfl
          clear HC HC2
          go_wp2_with fail
          go_region_held3 (fun w' => w'.cell? ⟨w.heap.size, 3, none⟩ = some (.string ⟨#[113, 117, 111, 116, 59]⟩) ∧ w'.cell? ⟨w.heap.size + 1, 3, none⟩ = some (.string ⟨#[34]⟩)) (first | exact ⟨a0, b0⟩ | exact ⟨a1, b1⟩ | exact ⟨a2, b2⟩) (fail)
          go_wp2_with fail
          go_region_held3 (fun w' => w'.cell? ⟨w.heap.size, 3, none⟩ = some (.string ⟨#[113, 117, 111, 116, 59]⟩) ∧ w'.cell? ⟨w.heap.size + 1, 3, none⟩ = some (.string ⟨#[34]⟩)) (first | exact ⟨a0, b0⟩ | exact ⟨a1, b1⟩ | exact ⟨a2, b2⟩) (fail)
          go_wp2_with fail
          go_ret3
          rw [HX.out]
          exact ⟨rfl, hFm2⟩
        | false =>
          have HX : Hid (rfN S 4 = R) := by
            show _ = R
            rw [← HC2, if_neg]
            · rfl
            · unfold bg
              rw [show (List.length ([113, 117, 111, 116, 59] : List UInt8)) = 5 from rfl, hb]
              simp
          clear HC HC2
          go_wp2_with fail
          go_region_held3 (fun w' => w'.cell? ⟨w.heap.size, 3, none⟩ = some (.string ⟨#[113, 117, 111, 116, 59]⟩) ∧ w'.cell? ⟨w.heap.size + 1, 3, none⟩ = some (.string ⟨#[34]⟩)) (first | exact ⟨a0, b0⟩ | exact ⟨a1, b1⟩ | exact ⟨a2, b2⟩) (fail)
          go_wp2_with fail
          go_roundw
          case rel => exact ⟨4, m + 1, by omega, rfl, by rw [← hV]; rfl, HX⟩
          case measure => simp [intOf]
      · have hzz : ¬ (5 : Int) ≤ (S.size : Int) := by omega
        have hzl : (S.size : Int) < 5 := by omega
        have hzn : S.size < 5 := by omega
        have hzb : decide ((5 : Int) ≤ (S.size : Int)) = false := decide_eq_false hzz
        have hzc : decide (5 ≤ S.size) = false := decide_eq_false hz
        have HX : Hid (rfN S 4 = R) := by
          show _ = R
          rw [← HC2, if_neg]
          · rfl
          · unfold bg
            rw [show (List.length ([113, 117, 111, 116, 59] : List UInt8)) = 5 from rfl, decide_eq_false hz]
            simp
        clear HC HC2
        go_wp2_with fail
        go_region
        go_wp2_with fail
        go_roundw
        case rel => exact ⟨4, m + 1, by omega, rfl, by rw [← hV]; rfl, HX⟩
        case measure => simp [intOf]
    · have HC2 := HC.out
      simp only [rfN, rf4] at HC2
      have a0 : (W.drewN m).cell? ⟨w.heap.size, 4, none⟩ = _ := n4
      have a1 : (W.drewN m).drew.cell? ⟨w.heap.size, 4, none⟩ = _ := n4
      have a2 : (W.drewN m).drew.drew.cell? ⟨w.heap.size, 4, none⟩ = _ := n4
      have b0 : (W.drewN m).cell? ⟨w.heap.size + 1, 4, none⟩ = _ := s4
      have b1 : (W.drewN m).drew.cell? ⟨w.heap.size + 1, 4, none⟩ = _ := s4
      have b2 : (W.drewN m).drew.drew.cell? ⟨w.heap.size + 1, 4, none⟩ = _ := s4
      clear n0 n1 n2 n3 n4 s0 s1 s2 s3 s4
      generalize hV : W.drewN m = V at *
      by_cases hz : 5 ≤ S.size
      · have hzz : (5 : Int) ≤ (S.size : Int) := by omega
        cases hb : ((S.extract 0 5).toList == [97, 112, 111, 115, 59]) with
        | true =>
          have HX : Hid (R = (⟨#[39]⟩, 5, true)) := by
            show R = _
            rw [← HC2, if_pos]
            unfold bg
            rw [show (List.length ([97, 112, 111, 115, 59] : List UInt8)) = 5 from rfl, hb, decide_eq_true hz]
            rfl
          clear HC HC2
          go_wp2_with fail
          go_region_held3 (fun w' => w'.cell? ⟨w.heap.size, 4, none⟩ = some (.string ⟨#[97, 112, 111, 115, 59]⟩) ∧ w'.cell? ⟨w.heap.size + 1, 4, none⟩ = some (.string ⟨#[39]⟩)) (first | exact ⟨a0, b0⟩ | exact ⟨a1, b1⟩ | exact ⟨a2, b2⟩) (fail)
          go_wp2_with fail
          go_region_held3 (fun w' => w'.cell? ⟨w.heap.size, 4, none⟩ = some (.string ⟨#[97, 112, 111, 115, 59]⟩) ∧ w'.cell? ⟨w.heap.size + 1, 4, none⟩ = some (.string ⟨#[39]⟩)) (first | exact ⟨a0, b0⟩ | exact ⟨a1, b1⟩ | exact ⟨a2, b2⟩) (fail)
          go_wp2_with fail
          go_ret3
          rw [HX.out]
          exact ⟨rfl, hFm2⟩
        | false =>
          have HX : Hid (rfN S 5 = R) := by
            show _ = R
            rw [← HC2, if_neg]
            · rfl
            · unfold bg
              rw [show (List.length ([97, 112, 111, 115, 59] : List UInt8)) = 5 from rfl, hb]
              simp
          clear HC HC2
          go_wp2_with fail
          go_region_held3 (fun w' => w'.cell? ⟨w.heap.size, 4, none⟩ = some (.string ⟨#[97, 112, 111, 115, 59]⟩) ∧ w'.cell? ⟨w.heap.size + 1, 4, none⟩ = some (.string ⟨#[39]⟩)) (first | exact ⟨a0, b0⟩ | exact ⟨a1, b1⟩ | exact ⟨a2, b2⟩) (fail)
          go_wp2_with fail
          go_roundw
          case rel => exact ⟨5, m + 1, by omega, rfl, by rw [← hV]; rfl, HX⟩
          case measure => simp [intOf]
      · have hzz : ¬ (5 : Int) ≤ (S.size : Int) := by omega
        have hzl : (S.size : Int) < 5 := by omega
        have hzn : S.size < 5 := by omega
        have hzb : decide ((5 : Int) ≤ (S.size : Int)) = false := decide_eq_false hzz
        have hzc : decide (5 ≤ S.size) = false := decide_eq_false hz
        have HX : Hid (rfN S 5 = R) := by
          show _ = R
          rw [← HC2, if_neg]
          · rfl
          · unfold bg
            rw [show (List.length ([97, 112, 111, 115, 59] : List UInt8)) = 5 from rfl, decide_eq_false hz]
            simp
        clear HC HC2
        go_wp2_with fail
        go_region
        go_wp2_with fail
        go_roundw
        case rel => exact ⟨5, m + 1, by omega, rfl, by rw [← hV]; rfl, HX⟩
        case measure => simp [intOf]
    · have HC2 := HC.out
      simp only [rfN, rf5] at HC2
      have hsb := some_bytes S
      by_cases h0 : S.size = 0
      · have hemp : S.toList.isEmpty = true := by rw [h0] at hsb; simpa using hsb
        have HX : Hid (R = (⟨#[]⟩, 0, false)) := by show R = _; rw [← HC2, if_neg (fun h => h.1 h0)]
        clear HC HC2 hsb
        go_wp2_with fail
        go_ret3
        rw [HX.out]
        exact ⟨rfl, hFm⟩
      · have hemp : S.toList.isEmpty = false := by
          have : (S.size != 0) = true := by simpa using h0
          rw [this] at hsb
          simpa using hsb
        have hpos : 0 < S.size := by omega
        have hg0 : S.get! 0 = S[0]'(by omega) := by simp [ByteArray.get!, getElem!_pos, hpos]; rfl
        rw [hg0] at HC2
        by_cases h35 : (S[0]'(by omega)).toNat = 35
        · have h35z : (((S[0]'(by omega)).toNat : Nat) : Int) = 35 := by omega
          rw [if_pos ⟨h0, h35⟩] at HC2
          have HB := number_any (S.extract 1 S.size) (W.drewN m) (by simp; omega)
          obtain ⟨⟨n1, n2, n3⟩, hn⟩ : ∃ x, nbF (S.extract 1 S.size) = x := ⟨_, rfl⟩
          have hnb := nbF_bound (S.extract 1 S.size)
          rw [hn] at hnb
          simp only at hnb
          have hn2 : n2 ≤ 1048577 := by simp at hnb; omega
          have hn3 : 0 ≤ n2 := hnb.1
          clear hnb
          rw [hn] at HB HC2
          simp only at HB HC2
          have HX : Hid (R = (n1, n2 + 1, n3)) := HC2.symm
          have h1z : (1 : Int) ≤ (S.size : Int) := by omega
          clear HC HC2 hsb hn h35
          go_wp2_with (go_at_call 66; with_reducible refine HB.mono ?_; rintro e w3 ⟨rfl, hF3⟩)
          go_ret3
          rw [HX.out]
          exact ⟨rfl, hFm.trans hF3⟩
        · have h35z : ¬ (((S[0]'(by omega)).toNat : Nat) : Int) = 35 := by omega
          have h35b : ((((S[0]'(by omega)).toNat : Nat) : Int) == 35) = false := by simpa using h35z
          have HX : Hid (R = (⟨#[]⟩, 0, false)) := by show R = _; rw [← HC2, if_neg (fun h => h35 h.2)]
          clear HC HC2 hsb h35
          go_wp2_with fail
          go_ret3
          rw [HX.out]
          exact ⟨rfl, hFm⟩
#print axioms rref_any
end Go.Proofs.YtpefadblmgcpcaaDoor
