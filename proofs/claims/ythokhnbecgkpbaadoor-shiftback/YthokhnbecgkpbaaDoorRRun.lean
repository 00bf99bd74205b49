/- Which signs no sheet's name has: strings.ContainsRune at any character. -/
import Derived.Test.YthokhnbecgkpbaaDoorRBas
import Derived.Laws.Runes
import Derived.LoopN
import Derived.WalkMore
namespace Go.Proofs.YthokhnbecgkpbaaDoor
open Go.RowKit Go.Shelf

/-- A character's number, as a text that is UTF-8 may have it. -/
def runeOk (r : Nat) : Prop := r < 55296 ∨ (57344 ≤ r ∧ r ≤ 1114111)
theorem decode_ok (s : ByteArray) (p : Nat) : runeOk (Utf8.decode s p).1 := by
  rw [Lib.decode_at]
  have h0 : (s.get! p).toNat < 256 := (s.get! p).toNat_lt
  have h1 : (s.get! (p + 1)).toNat < 256 := (s.get! (p + 1)).toNat_lt
  generalize (s.get! p).toNat = b0 at *
  generalize (s.get! (p + 1)).toNat = b1 at *
  generalize (s.get! (p + 2)).toNat = b2 at *
  generalize (s.get! (p + 3)).toNat = b3 at *
  unfold Lib.decodeN runeOk
  repeat' split
  all_goals simp only
  all_goals omega
theorem enc_facts (r : Nat) (h : runeOk r) (h1 : 128 ≤ r) : ∃ (rs : ByteArray) (last c : Nat), Utf8.encode (r : Int) = rs ∧ (last = 1 ∨ last = 2 ∨ last = 3) ∧ rs.size = last + 1 ∧ (∀ hh, (rs[last]'hh).toNat = c) ∧ 128 ≤ c ∧ c < 256 := by
  have hv : Utf8.valid (r : Int) = true := by
    unfold runeOk at h
    simp [Utf8.valid]
    omega
  obtain ⟨a, b, d⟩ := encode_facts (r : Int) hv (by omega)
  obtain ⟨rs, hrs⟩ : ∃ rs, Utf8.encode (r : Int) = rs := ⟨_, rfl⟩
  rw [hrs] at a b d
  obtain ⟨last, hl⟩ : ∃ last, rs.size = last + 1 := ⟨rs.size - 1, by omega⟩
  have hb : rs.size - 1 = last := by omega
  have hq : last < rs.size := by omega
  have d2 : 128 ≤ (rs[last]'hq).toNat := by
    have := d (by omega)
    simpa only [hb] using this
  exact ⟨rs, last, (rs[last]'hq).toNat, hrs, by omega, hl, fun _ => rfl, d2, UInt8.toNat_lt _⟩
set_option maxRecDepth 100000 in
theorem validRune_any (r : Nat) (h : runeOk r) (w : World) : Calls Tryd.prog 80 #[.int .i32 (r : Int)] w fun e w' => e = .returned (.bool true) ∧ w' = w := by
  have h0 : (0 : Int) ≤ (r : Int) := by omega
  have hh : (r : Int) < 55296 ∨ ((57343 : Int) < (r : Int) ∧ (r : Int) ≤ 1114111 ∧ ¬ (r : Int) < 55296) := by unfold runeOk at h; omega
  clear h
  generalize (r : Int) = x at *
  rcases hh with h | ⟨h1, h2, h3⟩
  · go_enter Tryd.func80, Tryd.ntmps80
    go_wp2_with fail
    go_ret
    exact ⟨rfl, rfl⟩
  · go_enter Tryd.func80, Tryd.ntmps80
    go_wp2_with fail
    go_ret
    exact ⟨rfl, rfl⟩
theorem idxByte_any (s : ByteArray) (c : Nat) (w : World) (hc : c < 256) (h : ∀ b ∈ s.data.toList, b.toNat ≠ c) : Calls Tryd.prog 79 #[.string s, .int .u8 (c : Int)] w fun e w' => e = .returned (.int .i64 (-1)) ∧ w' = w := by
  refine (show Calls Tryd.prog 79 _ w _ from Any.strings_IndexByte { Tryd.laysLaysn152 with } s (c : Int) w).mono ?_
  rintro e w' ⟨rfl, rfl⟩
  refine ⟨ret_int ?_, rfl⟩
  have key : ∀ l : List UInt8, (∀ b ∈ l, b.toNat ≠ c) → Lib.indexByte l ((c : Int).toNat.toUInt8) = -1 := by
    intro l
    induction l with
    | nil => intro _; rfl
    | cons b l ih =>
      intro hb
      have hne : (b == (c : Int).toNat.toUInt8) = false := by
        rw [beq_eq_false_iff_ne]
        intro e
        refine hb b List.mem_cons_self ?_
        rw [e]
        show (UInt8.ofNat c).toNat = c
        rw [UInt8.toNat_ofNat']
        omega
      rw [Lib.indexByte, hne, ih fun x hx => hb x (List.mem_cons_of_mem _ hx)]
      rfl
  exact key _ h
set_option maxRecDepth 100000 in
set_option maxHeartbeats 2000000 in
theorem idxRune_fffd (s : ByteArray) (hs : ∀ p, p < s.size → byt s p < 128) (w : World) : Calls Tryd.prog 71 #[.string s, .int .i32 65533] w fun e w' => e = .returned (.int .i64 (-1)) ∧ Fr noB w w' := by
  go_enter Tryd.func71, Tryd.ntmps71
  go_wp2
  go_loopw [] (fun w' => ∃ (pos : Nat), w' = w.iter s pos) (fun w' => s.size - w'.iterPos w.heap.size)
  case atStart => exact ⟨0, rfl⟩
  case round =>
    obtain ⟨pos, rfl⟩ := hrel
    by_cases hp : pos < s.size
    · have hnx : ∀ ty, (Instr.next (.pointer (some ⟨w.heap.size, 0, none⟩)) true ty).run Tryd.prog (w.iter s pos) = _ := fun ty => run_next_any w s pos ty hp
      have hwd := width_pos s pos hp
      have hr : (Utf8.decode s pos).1 < 128 := by
        rw [decode_ascii s pos hp (by rw [byt_at]; exact hs pos hp), byt_at]
        exact hs pos hp
      obtain ⟨⟨r, n⟩, hd⟩ : ∃ d, Utf8.decode s pos = d := ⟨_, rfl⟩
      rw [hd] at hnx hwd hr
      simp only at hnx hwd hr
      have hr' : ¬ (r : Int) = 65533 := by omega
      clear hd hs
      go_wp2
      go_roundw
      case rel => exact ⟨_, rfl⟩
      case measure => simp; omega
    · have hnx : ∀ ty, (Instr.next (.pointer (some ⟨w.heap.size, 0, none⟩)) true ty).run Tryd.prog (w.iter s pos) = _ := fun ty => run_next_end w s pos ty hp
      go_wp2
      go_ret
      exact ⟨rfl, (Fr.refl noB w).alloc _⟩

/-- The signs. -/
def barS : ByteArray := ⟨#[91, 93, 42, 63, 58, 47, 92, 39]⟩
theorem bar_ascii (p : Nat) (h : p < barS.size) : byt barS p < 128 := by
  have hz : barS.size = 8 := rfl
  rw [hz] at h
  have e : p = 0 ∨ p = 1 ∨ p = 2 ∨ p = 3 ∨ p = 4 ∨ p = 5 ∨ p = 6 ∨ p = 7 := by omega
  rcases e with rfl | rfl | rfl | rfl | rfl | rfl | rfl | rfl <;> decide
theorem bar_idx (c m : Nat) (h : 128 ≤ c) : ∀ b ∈ (barS.extract m 8).data.toList, b.toNat ≠ c := by
  intro b hb
  have h2 : b ∈ barS.data.toList := by
    rw [ByteArray.data_extract] at hb
    simp only [Array.toList_extract] at hb
    exact List.mem_of_mem_drop (List.mem_of_mem_take (by simpa [List.extract] using hb))
  have h3 : b.toNat < 128 := by
    simp [barS] at h2
    rcases h2 with rfl | rfl | rfl | rfl | rfl | rfl | rfl | rfl <;> decide
  omega
set_option maxRecDepth 100000 in
set_option maxHeartbeats 2000000 in
theorem idxRune_wide (last c r : Nat) (rs : ByteArray) (hl : last = 1 ∨ last = 2 ∨ last = 3) (hsz : rs.size = last + 1) (hcx : ∀ hh, (rs[last]'hh).toNat = c) (hc1 : 128 ≤ c) (hc2 : c < 256) (h128 : 128 ≤ r) (hff : r ≠ 65533) (hro : runeOk r) (hrs : Utf8.encode (r : Int) = rs) (w : World) :
    Calls Tryd.prog 71 #[.string barS, .int .i32 (r : Int)] w fun e w' => e = .returned (.int .i64 (-1)) ∧ Fr noB w w' := by
  have hV := validRune_any r hro
  have hcv : ∀ W : World, (convert 21 9 (.int .i32 (r : Int))).run Tryd.prog W = .ok (.string rs) W := fun W => by rw [run_convert_int_string W 21 9 .i32 r rfl Tryd.underlying9, hrs]
  have hIB := fun m w => idxByte_any (barS.extract m 8) c w hc2 (bar_idx c m hc1)
  have h0 : (0 : Int) ≤ (r : Int) := by omega
  have h1 : ¬ (r : Int) < 128 := by omega
  have h2 : ¬ (r : Int) = 65533 := by omega
  have b1 : ∀ hh, (barS[1]'hh).toNat = 93 := fun _ => rfl
  have b2 : ∀ hh, (barS[2]'hh).toNat = 42 := fun _ => rfl
  have b3 : ∀ hh, (barS[3]'hh).toNat = 63 := fun _ => rfl
  have hbs : barS.size = 8 := rfl
  clear hrs hro h128 hff
  generalize barS = s at *
  generalize (r : Int) = x at *
  have hcc : ¬ (93 : Int) = (c : Int) ∧ ¬ (42 : Int) = (c : Int) ∧ ¬ (63 : Int) = (c : Int) := by omega
  have e2 : IntKind.i64.wrap 2 = 2 := rfl
  have e3 : IntKind.i64.wrap 3 = 3 := rfl
  have e4 : IntKind.i64.wrap 4 = 4 := rfl
  rcases hl with rfl | rfl | rfl
  all_goals
    go_enter Tryd.func71, Tryd.ntmps71
    go_wp2_with (go_at_call 80; refine (hV _).mono ?_; rintro e w1 ⟨rfl, rfl⟩)
    go_step3
    go_wp2_with fail
    refine wp_loop_rounds 1 ?_
    rw [rounds_succ]
    go_wp2_with fail
    go_step3
    go_wp2_with fail
    go_quiet (fail)
    go_wp2_with fail
    obtain ⟨W, hW⟩ : ∃ W, w1.drewN nq = W := ⟨_, rfl⟩
    have hF : Fr noB w1 W := by rw [← hW]; exact (Fr.refl noB _).drewN _
    rw [hW]
    clear hW
    go_quiet ((go_at_call 79; exact Calls.quiet_of_same (hIB _ _)))
    go_wp2_with fail
    rw [Exit.noGoto_ret]
    go_wp2_with fail
    rw [Exit.noGoto_ret]
    go_ret
    exact ⟨rfl, hF.drewN _⟩
/-- Any character against the signs. -/
theorem contains_ascii (r : Nat) (h : r < 128) : decide (0 ≤ Lib.indexByte barS.data.toList (r : Int).toNat.toUInt8) = barK r := by
  have key : ∀ x : Fin 128, decide (0 ≤ Lib.indexByte barS.data.toList ((x.val : Int)).toNat.toUInt8) = barK x.val := by decide +kernel
  exact key ⟨r, h⟩
set_option maxRecDepth 100000 in
theorem contains_any (r : Nat) (h : runeOk r) (w : World) : Calls Tryd.prog 56 #[.string barS, .int .i32 (r : Int)] w fun e w' => e = .returned (.bool (barK r)) ∧ Fr noB w w' := by
  by_cases h1 : r < 128
  · refine (show Calls Tryd.prog 56 _ w _ from Any.strings_ContainsRune_ascii Tryd.laysLaysn151 barS (r : Int) w (by omega) (by omega)).mono ?_
    rintro e w' ⟨rfl, rfl⟩
    rw [contains_ascii r h1]
    exact ⟨rfl, Fr.refl _ _⟩
  · have hb : barK r = false := by simp [barK]; omega
    have HI : ∀ W, Calls Tryd.prog 71 #[.string barS, .int .i32 (r : Int)] W fun e w' => e = .returned (.int .i64 (-1)) ∧ Fr noB W w' := by
      intro W
      by_cases h2 : r = 65533
      · subst h2
        exact idxRune_fffd barS bar_ascii W
      · obtain ⟨rs, last, c, e1, e2, e3, e4, e5, e6⟩ := enc_facts r h (by omega)
        exact idxRune_wide last c r rs e2 e3 e4 e5 e6 (by omega) h2 h e1 W
    rw [hb]
    clear h hb
    generalize barS = s at *
    generalize (r : Int) = x at *
    go_enter Tryd.func56, Tryd.ntmps56
    go_wp2_with (go_at_call 71; refine (HI _).mono ?_; rintro e w1 ⟨rfl, hF1⟩)
    go_ret
    exact ⟨rfl, hF1⟩
#print axioms contains_any
#print axioms idxRune_fffd
end Go.Proofs.YthokhnbecgkpbaaDoor
