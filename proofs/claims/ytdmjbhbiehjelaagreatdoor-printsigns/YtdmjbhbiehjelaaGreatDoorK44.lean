/- Column and ParseColumn: the document's contracts. -/
import Derived.Test.YtdmjbhbiehjelaaGreatDoorK31
import Derived.Laws.BytesString
import Derived.Laws.IdiomStrings
namespace Go.Proofs.YtdmjbhbiehjelaaGreatDoor
open Go.RowKit Go.Shelf

theorem one_src (w : World) (v : Value) : (w.alloc (.cells #[v] 5 (0, 0))).cell? ⟨w.heap.size, 0, none⟩ = some v := cellOf (o := 0) (heap_alloc_new w _) rfl
theorem conv_one (w : World) (c k : Nat) (h : k < 26) : (convert 53 9 (.slice (some ⟨w.heap.size, 0, none⟩) 1 c)).run Tryz.prog (w.alloc (.cells #[.int .u8 ((65 : Int) + (k : Int))] 5 (0, 0))) = .ok (.string (baL_r [UInt8.ofNat (65 + k)])) (w.alloc (.cells #[.int .u8 ((65 : Int) + (k : Int))] 5 (0, 0))) := by
  have e : (65 : Int) + (k : Int) = (((UInt8.ofNat (65 + k)).toNat : Nat) : Int) := by rw [UInt8.toNat_ofNat']; omega
  rw [e]
  exact run_convert_bytes_back (P := Tryz.prog) _ 53 9 5 ⟨w.heap.size, 0, none⟩ c [UInt8.ofNat (65 + k)] Tryz.underlying53 Tryz.underlying5 Tryz.underlying9 (fun j hj => by
      have : j = 0 := by simpa using hj
      subst this
      exact one_src w _)
set_option maxRecDepth 100000 in
set_option maxHeartbeats 2000000 in
theorem rcolumn_any (n : Int) (w : World) : Calls Tryz.prog 94 #[.int .i64 n] w fun e w' => e = .returned (if 0 ≤ n ∧ n < 1024 then .tuple #[.string (baL_r (ltrL n.toNat)), .int .i64 0] else .tuple #[.string ⟨#[]⟩, .int .i64 110]) ∧ Fr noB w w' := by
  by_cases h : 0 ≤ n ∧ n < 1024
  · rw [if_pos h]
    obtain ⟨m, rfl⟩ : ∃ m : Nat, n = m := ⟨n.toNat, by omega⟩
    have hm : m < 1024 := by omega
    rw [show ((m : Int)).toNat = m by simp]
    obtain ⟨R, hR⟩ : ∃ R, ltrL m = R := ⟨_, rfl⟩
    have HR : Hid (ltrL m = R) := hR
    have hRl : R.length ≤ 1024 := by rw [← hR]; have := ltrGo_len 1025 (m + 1); unfold ltrL; omega
    rw [hR]
    have g1 : ¬ (m : Int) < 0 := by omega
    have g2 : ¬ (1024 : Int) ≤ (m : Int) := by omega
    clear hR h
    go_enter Tryz.func94, Tryz.ntmps94
    go_wp2_with fail
    go_loopw [0, 4] (fun nv sv wr => ∃ (g k : Nat) (A : List UInt8), nv = .int .i64 (k : Int) ∧ sv = .string (baL_r A) ∧ k < g ∧ k ≤ 1024 ∧ A.length ≤ 1024 ∧ Hid (ltrGo g k ++ A = R) ∧ Fr noB w wr) (fun nv _ _ => (intOf nv).toNat)
    case atStart => exact ⟨1025, m + 1, [], by go_num, rfl, by omega, by omega, by simp, by show _ = _; rw [List.append_nil]; exact HR.out, Fr.refl _ _⟩
    case round =>
      obtain ⟨g, k, A, rfl, rfl, hg, hk, hA, HC, hF⟩ := hrel
      by_cases h0 : k = 0
      · subst h0
        have HX : Hid (A = R) := by
          have := HC.out
          cases g with
          | zero => omega
          | succ g => simpa [ltrGo, Hid] using this
        clear HC
        go_wp2_with fail
        go_ret2
        rw [HX.out]
        exact ⟨rfl, hF⟩
      · obtain ⟨q, rfl⟩ : ∃ q, k = q + 1 := ⟨k - 1, by omega⟩
        obtain ⟨g', rfl⟩ : ∃ g', g = g' + 1 := ⟨g - 1, by omega⟩
        have HX : Hid (ltrGo g' (q / 26) ++ ([UInt8.ofNat (65 + q % 26)] ++ A) = R) := by
          have := HC.out
          rw [ltrGo, if_neg (by omega), List.append_assoc] at this
          exact this
        have hq26 : q % 26 < 26 := Nat.mod_lt _ (by omega)
        obtain ⟨j, hj⟩ : ∃ j, q % 26 = j := ⟨_, rfl⟩
        rw [hj] at hq26 HX
        have hcv := fun c => conv_one wr c j hq26
        have htm : (q : Int).tmod 26 = (j : Int) := by rw [← hj]; rfl
        have htd : (q : Int).tdiv 26 = ((q / 26 : Nat) : Int) := rfl
        have hsb : ((q : Int) + 1) - 1 = (q : Int) := by omega
        obtain ⟨d, hd⟩ : ∃ d, q / 26 = d := ⟨_, rfl⟩
        rw [hd] at htd HX
        have HL : Hid (R.length = (ltrGo g' d).length + (1 + A.length)) := by show R.length = _; rw [← HX.out]; simp; omega
        have hAs : (baL_r A).size ≤ 1024 := by rw [baL_size_r]; exact hA
        have h1s : (baL_r [UInt8.ofNat (65 + j)]).size = 1 := rfl
        have HB : Hid (baL_r [UInt8.ofNat (65 + j)] ++ baL_r A = baL_r ([UInt8.ofNat (65 + j)] ++ A)) := baL_append_r _ _
        have hd2 : d ≤ q := by rw [← hd]; exact Nat.div_le_self _ _
        have HH : Hid (q / 26 = d) := hd
        have hF2 : Fr noB w (wr.alloc (.cells #[.int .u8 ((65 : Int) + (j : Int))] 5 (0, 0))) := hF.alloc _
        generalize baL_r [UInt8.ofNat (65 + j)] = B1 at *
        generalize hBA : baL_r A = BA at *
        clear HC hj hd
        go_wp2_with fail
        go_roundw
        case rel => exact ⟨g', d, [UInt8.ofNat (65 + j)] ++ A, rfl, by rw [HB.out], by omega, by omega, by have := HL.out; simp; omega, HX, hF2⟩
        case measure => simp [intOf]; omega
  · rw [if_neg h]
    by_cases g1 : n < 0
    · go_enter Tryz.func94, Tryz.ntmps94
      go_wp2_with fail
      go_ret2
      exact ⟨rfl, Fr.refl _ _⟩
    · have g2 : (1024 : Int) ≤ n := by omega
      clear h
      go_enter Tryz.func94, Tryz.ntmps94
      go_wp2_with fail
      go_ret2
      exact ⟨rfl, Fr.refl _ _⟩
#print axioms rcolumn_any
end Go.Proofs.YtdmjbhbiehjelaaGreatDoor
/- RefsColumns: the law's walk. -/
namespace Go.Proofs.YtdmjbhbiehjelaaGreatDoor
open Go.RowKit Go.Shelf

/-- What Column answers. -/
def clnS (n : Int) : ByteArray := if 0 ≤ n ∧ n < 1024 then baL_r (ltrL n.toNat) else ⟨#[]⟩
def clnE (n : Int) : Int := if 0 ≤ n ∧ n < 1024 then 0 else 110
theorem cln_is (n : Int) : (if 0 ≤ n ∧ n < 1024 then Value.tuple #[.string (baL_r (ltrL n.toNat)), .int .i64 0] else .tuple #[.string ⟨#[]⟩, .int .i64 110]) = .tuple #[.string (clnS n), .int .i64 (clnE n)] := by
  unfold clnS clnE
  split <;> rfl
def pclN (s : ByteArray) : Int := match colF s with
  | some n => (n : Int)
  | none => 0
def pclE (s : ByteArray) : Int := match colF s with
  | some _ => 0
  | none => 110
theorem pcl_is (s : ByteArray) : colV (colF s) = .tuple #[.int .i64 (pclN s), .int .i64 (pclE s)] := by
  unfold colV pclN pclE
  cases colF s <;> rfl
end Go.Proofs.YtdmjbhbiehjelaaGreatDoor
