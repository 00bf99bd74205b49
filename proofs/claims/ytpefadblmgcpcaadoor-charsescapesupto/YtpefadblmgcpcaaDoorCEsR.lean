/- Escape: the document's side; digits. -/
import Derived.Test.YtpefadblmgcpcaaDoorCEsc
import Derived.Test.YtpefadblmgcpcaaDoorCLnR
import Derived.Test.YtpefadblmgcpcaaDoorCDec
namespace Go.Proofs.YtpefadblmgcpcaaDoor
open Go.RowKit Go.Shelf

/-- What the document has for a byte. -/
def escB (x : UInt8) (attr : Bool) : ByteArray := match escT x.toNat attr with
  | some t => t
  | none => ⟨#[x]⟩
theorem escB_list (s : ByteArray) (attr : Bool) (j : Nat) : (escB (s.get! j) attr).data.toList = gEsc s attr j := by
  unfold escB gEsc
  cases escT (s.get! j).toNat attr <;> rfl
theorem escB_size (x : UInt8) (attr : Bool) : (escB x attr).size ≤ 6 := by
  unfold escB
  cases h : escT x.toNat attr with
  | none => exact (show (1 : Nat) ≤ 6 by decide)
  | some t => exact (escT_low _ _ _ h).2
set_option maxRecDepth 100000 in
set_option maxHeartbeats 1000000 in
theorem rescape_any (x : UInt8) (attr : Bool) (w : World) : Calls Tryd.prog 45 #[.int .u8 ((x.toNat : Nat) : Int), .bool attr] w fun e w' => e = .returned (.string (escB x attr)) ∧ Fr noB w w' := by
  have hcv : ∀ c, (convert 54 9 (.slice (some ⟨w.heap.size, 0, none⟩) 1 c)).run Tryd.prog (w.alloc (.cells #[.int .u8 ((x.toNat : Nat) : Int)] 5 (0, 0))) = .ok (.string ⟨#[x]⟩) (w.alloc (.cells #[.int .u8 ((x.toNat : Nat) : Int)] 5 (0, 0))) := fun c =>
    run_convert_bytes_back (P := Tryd.prog) _ 54 9 5 ⟨w.heap.size, 0, none⟩ c [x] Tryd.underlying54 Tryd.underlying5 Tryd.underlying9 (fun j hj => by
      have : j = 0 := by simpa using hj
      subst this
      exact one_src w _ _ 0 _ rfl)
  unfold escB
  obtain ⟨n, hn⟩ : ∃ n, x.toNat = n := ⟨_, rfl⟩
  rw [hn] at hcv ⊢
  clear hn
  obtain ⟨R, hR⟩ : ∃ R : ByteArray, (match escT n attr with
    | some t => t
    | none => ⟨#[x]⟩) = R := ⟨_, rfl⟩
  rw [hR]
  have HR : Hid ((match escT n attr with
    | some t => t
    | none => ⟨#[x]⟩) = R) := hR
  clear hR
  cases attr with
  | false =>
    by_cases h38 : n = 38
    · subst h38
      clear hcv
      go_enter Tryd.func45, Tryd.ntmps45
      go_wp2_with fail
      go_ret
      exact ⟨by rw [← HR.out]; rfl, Fr.refl _ _⟩
    by_cases h60 : n = 60
    · subst h60
      clear hcv
      go_enter Tryd.func45, Tryd.ntmps45
      go_wp2_with fail
      go_ret
      exact ⟨by rw [← HR.out]; rfl, Fr.refl _ _⟩
    by_cases h62 : n = 62
    · subst h62
      clear hcv
      go_enter Tryd.func45, Tryd.ntmps45
      go_wp2_with fail
      go_ret
      exact ⟨by rw [← HR.out]; rfl, Fr.refl _ _⟩
    by_cases h13 : n = 13
    · subst h13
      clear hcv
      go_enter Tryd.func45, Tryd.ntmps45
      go_wp2_with fail
      go_ret
      exact ⟨by rw [← HR.out]; rfl, Fr.refl _ _⟩
    have ho : escT n false = none := by unfold escT; simp [h38, h60, h62, h13]
    have HR2 : Hid ((⟨#[x]⟩ : ByteArray) = R) := by have h := HR.out; rw [ho] at h; exact h
    clear HR
    have z38 : ¬ (n : Int) = 38 := by omega
    have z60 : ¬ (n : Int) = 60 := by omega
    have z62 : ¬ (n : Int) = 62 := by omega
    have z13 : ¬ (n : Int) = 13 := by omega
    clear ho h38 h60 h62 h13
    go_enter Tryd.func45, Tryd.ntmps45
    go_wp2_with fail
    go_ret
    exact ⟨by rw [← HR2.out]; rfl, (Fr.refl _ _).alloc _⟩
  | true =>
    by_cases h38 : n = 38
    · subst h38
      clear hcv
      go_enter Tryd.func45, Tryd.ntmps45
      go_wp2_with fail
      go_ret
      exact ⟨by rw [← HR.out]; rfl, Fr.refl _ _⟩
    by_cases h60 : n = 60
    · subst h60
      clear hcv
      go_enter Tryd.func45, Tryd.ntmps45
      go_wp2_with fail
      go_ret
      exact ⟨by rw [← HR.out]; rfl, Fr.refl _ _⟩
    by_cases h62 : n = 62
    · subst h62
      clear hcv
      go_enter Tryd.func45, Tryd.ntmps45
      go_wp2_with fail
      go_ret
      exact ⟨by rw [← HR.out]; rfl, Fr.refl _ _⟩
    by_cases h13 : n = 13
    · subst h13
      clear hcv
      go_enter Tryd.func45, Tryd.ntmps45
      go_wp2_with fail
      go_ret
      exact ⟨by rw [← HR.out]; rfl, Fr.refl _ _⟩
    by_cases h34 : n = 34
    · subst h34
      clear hcv
      go_enter Tryd.func45, Tryd.ntmps45
      go_wp2_with fail
      go_ret
      exact ⟨by rw [← HR.out]; rfl, Fr.refl _ _⟩
    by_cases h9 : n = 9
    · subst h9
      clear hcv
      go_enter Tryd.func45, Tryd.ntmps45
      go_wp2_with fail
      go_ret
      exact ⟨by rw [← HR.out]; rfl, Fr.refl _ _⟩
    by_cases h10 : n = 10
    · subst h10
      clear hcv
      go_enter Tryd.func45, Tryd.ntmps45
      go_wp2_with fail
      go_ret
      exact ⟨by rw [← HR.out]; rfl, Fr.refl _ _⟩
    have ho : escT n true = none := by unfold escT; simp [h38, h60, h62, h13, h34, h9, h10]
    have HR2 : Hid ((⟨#[x]⟩ : ByteArray) = R) := by have h := HR.out; rw [ho] at h; exact h
    clear HR
    have z38 : ¬ (n : Int) = 38 := by omega
    have z60 : ¬ (n : Int) = 60 := by omega
    have z62 : ¬ (n : Int) = 62 := by omega
    have z13 : ¬ (n : Int) = 13 := by omega
    have z34 : ¬ (n : Int) = 34 := by omega
    have z9 : ¬ (n : Int) = 9 := by omega
    have z10 : ¬ (n : Int) = 10 := by omega
    clear ho h38 h60 h62 h13 h34 h9 h10
    go_enter Tryd.func45, Tryd.ntmps45
    go_wp2_with fail
    go_ret
    exact ⟨by rw [← HR2.out]; rfl, (Fr.refl _ _).alloc _⟩
set_option maxRecDepth 100000 in
set_option maxHeartbeats 2000000 in
theorem rescapes_any (s : ByteArray) (attr : Bool) (w : World) (hs : s.size ≤ 1048576) (hT : Tabs w) : Calls Tryd.prog 16 #[.string s, .bool attr] w fun e w' => e = .returned (.tuple #[.string (escF s attr).1, .int .i64 (escF s attr).2]) ∧ Fr noB w w' := by
  have HV := rvalid_any s w hs hT
  clear hT
  unfold escF
  obtain ⟨⟨va, vo⟩, hv⟩ : ∃ d, validF s = d := ⟨_, rfl⟩
  rw [hv] at HV ⊢
  simp only at HV ⊢
  clear hv
  cases vo with
  | false =>
    go_enter Tryd.func16, Tryd.ntmps16
    go_wp2_with (go_at_call 9; with_reducible refine HV.mono ?_; rintro e w1 ⟨rfl, hF⟩)
    go_ret2
    exact ⟨rfl, hF⟩
  | true =>
    obtain ⟨i0, hi, hz0, hz1, hz2⟩ := info_parts byteInfo
    obtain ⟨R, hR⟩ : ∃ R, fromB s (gEsc s attr) 0 = R := ⟨_, rfl⟩
    rw [hR]
    have HR : Hid (fromB s (gEsc s attr) 0 = R) := hR
    clear hR
    go_enter Tryd.func16, Tryd.ntmps16
    go_wp2_with (go_at_call 9; with_reducible refine HV.mono ?_; rintro e w1 ⟨rfl, hF⟩)
    clear HV
    go_loopw [8, 9] (fun lv iv wr => ∃ (k : Nat) (D : List UInt8) (so : Option Addr) (sc : Nat), lv = .slice so D.length sc ∧ iv = .int .i64 (k : Int) ∧ wr.ownsRow w.heap.size 5 1 (.slice so D.length sc) D.length (Lib.byteCells D) ∧ Fr noB w wr ∧ k ≤ s.size ∧ D.length ≤ 6 * k ∧ Hid (D ++ fromB s (gEsc s attr) k = R)) (fun _ iv _ => s.size - (intOf iv).toNat)
    case atStart => exact ⟨0, [], none, 0, rfl, rfl, World.ownsRow_nil _ _ _ _, hF, Nat.zero_le _, Nat.le_refl _, HR⟩
    case round =>
      clear HR
      obtain ⟨k, D, so, sc, rfl, rfl, hO, hF2, hks, hDl, HC⟩ := hrel
      by_cases hk : k < s.size
      · have hgk : s.get! k = s[k] := by simp [ByteArray.get!, getElem!_pos, hk]; rfl
        have HC2 := HC.out
        rw [fromB_step s _ k hk, ← escB_list, hgk] at HC2
        have HE := rescape_any s[k] attr wr
        have hEz := escB_size s[k] attr
        obtain ⟨T, hT⟩ : ∃ T, escB s[k] attr = T := ⟨_, rfl⟩
        rw [hT] at HE hEz HC2
        have HX : Hid ((D ++ T.data.toList) ++ fromB s (gEsc s attr) (k + 1) = R) := by show _ = R; rw [← HC2, List.append_assoc]
        have HO : Hid (wr.ownsRow w.heap.size 5 1 (.slice so D.length sc) D.length (Lib.byteCells D)) := hO
        clear hO HC HC2 hT hgk
        go_wp2_with (first
          | (go_at_call 45; with_reducible refine HE.mono ?_; rintro e w3 ⟨rfl, hF3⟩)
          | (at_builtin; refine Lib.wpList_append_own_string _ rfl _ _ 54 9 rfl w.heap.size 5 i0 Tryd.underlying54 Tryd.underlying9 hi hz0 hz1 hz2 _ _ _ rfl (own_keep HO.out hF3) T rfl (by unfold maxLen; omega) (by omega) (by have := hF2.size; have := hF3.size; omega) ?_))
        intro v' w4 hown hg _
        have hF4 : Fr noB w w4 := (hF2.trans hF3).grown hg (fun k hk => Or.inr ((own_keep HO.out hF3).lt k hk).1)
        rw [Lib.strCells_eq, ← Lib.byteCells_append] at hown
        have htl : T.data.toList.length = T.size := by simp
        obtain ⟨so', sc', rfl⟩ := own_form hown
        obtain ⟨tl, hTT⟩ : ∃ tl, T.data.toList = tl := ⟨_, rfl⟩
        rw [hTT] at hown HX htl
        have hts : T.size = tl.length := htl.symm
        rw [hts] at hown hEz
        clear HE HO hg hTT htl
        rw [hts]
        clear hts
        go_wp2
        go_roundw
        case rel => exact ⟨k + 1, D ++ tl, so', sc', by simp, by go_num, by simpa using hown, hF4, by omega, by simp; omega, HX⟩
        case measure => simp [intOf]; omega
      · have HX : Hid (D = R) := by
          have := HC.out
          rw [fromB_end s _ k hk, List.append_nil] at this
          exact this
        have hcv := conv_own D rfl hO
        clear HC
        go_wp2
        go_ret2
        rw [← HX.out]
        exact ⟨rfl, hF2⟩
#print axioms rescapes_any
end Go.Proofs.YtpefadblmgcpcaaDoor
