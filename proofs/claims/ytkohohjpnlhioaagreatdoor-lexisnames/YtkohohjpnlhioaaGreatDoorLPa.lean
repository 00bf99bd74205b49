/- number.Parse of a text of one digit. -/
import Derived.Test.YtkohohjpnlhioaaGreatDoorK15
import Derived.Test.YtkohohjpnlhioaaGreatDoorShelf2
import Derived.LoopN
import Derived.WalkMore
import Derived.Lib.IndexLaws
import Derived.Laws.Tables
import Derived.Deep.QuietTactic
import GoSem.Extern.BytealgIndexByte
namespace Go.Proofs.YtkohohjpnlhioaaGreatDoor
open Go.RowKit Ieee Go.Shelf

theorem pa_ext_idx (args : Array Value) (w : World) : (callFunc 146 args).run Tryz.prog w = ((Extern.BytealgIndexByte.indexByte args).run Tryz.prog w).andThen fun v w' => .ok (.value v) w' :=
  run_callFunc_extern Tryz.func146 (by kernel_rfl) (by kernel_rfl) (by kernel_rfl) (by kernel_rfl) args w
theorem pa_run_idxE (k : _root_.Fin 9) (w : World) : (callFunc 146 #[.string ⟨#[69, 101]⟩, .int .u8 ((49 + k.val : Nat) : Int)]).run Tryz.prog w = .ok (.value (.int .i64 (-1))) w := by
  rw [pa_ext_idx]
  match k with
  | 0 => rfl
  | 1 => rfl
  | 2 => rfl
  | 3 => rfl
  | 4 => rfl
  | 5 => rfl
  | 6 => rfl
  | 7 => rfl
  | 8 => rfl
theorem pa_idxE (c : Nat) (h : 49 ≤ c ∧ c ≤ 57) (w : World) : (callFunc 146 #[.string ⟨#[69, 101]⟩, .int .u8 (c : Int)]).run Tryz.prog w = .ok (.value (.int .i64 (-1))) w := by
  obtain ⟨k, rfl⟩ : ∃ k : _root_.Fin 9, c = 49 + k.val := ⟨⟨c - 49, by omega⟩, by simp; omega⟩
  exact pa_run_idxE k w
set_option maxRecDepth 100000 in
theorem pa_sliteE (c : Nat) (w : World) (h : 49 ≤ c ∧ c ≤ 57) : Calls Tryz.prog 113 #[.string ⟨#[69, 101]⟩, .int .u8 (c : Int)] w fun e w' => e = .returned (.int .i64 (-1)) ∧ w' = w := by
  have hr : ∀ W, _ := fun W => pa_idxE c h W
  clear h
  go_enter Tryz.func113, Tryz.ntmps113
  go_wp2_with fail
  go_ret
  exact ⟨rfl, rfl⟩
set_option maxRecDepth 100000 in
theorem pa_stringsE (c : Nat) (w : World) (h : 49 ≤ c ∧ c ≤ 57) : Calls Tryz.prog 225 #[.string ⟨#[69, 101]⟩, .int .u8 (c : Int)] w fun e w' => e = .returned (.int .i64 (-1)) ∧ w' = w := by
  have hr := pa_sliteE c
  go_enter Tryz.func225, Tryz.ntmps225
  go_wp2_with (go_at_call 113; refine (hr _ h).mono ?_; rintro e w1 ⟨rfl, rfl⟩)
  go_ret
  exact ⟨rfl, rfl⟩
set_option maxRecDepth 100000 in
set_option maxHeartbeats 1000000 in
theorem pa_runeE (c : Nat) (w : World) (h : 49 ≤ c ∧ c ≤ 57) : Calls Tryz.prog 188 #[.string ⟨#[69, 101]⟩, .int .i32 (c : Int)] w fun e w' => e = .returned (.int .i64 (-1)) ∧ w' = w := by
  have hr := pa_stringsE c
  have h2 : c < 128 := by omega
  go_enter Tryz.func188, Tryz.ntmps188
  go_wp2_with (go_at_call 225; refine (hr _ h).mono ?_; rintro e w1 ⟨rfl, rfl⟩)
  go_ret
  exact ⟨rfl, rfl⟩
set_option maxRecDepth 100000 in
theorem pa_shouldE (w : World) : Calls Tryz.prog 215 #[.int .i64 1] w fun e w' => e = .returned (.bool false) ∧ w' = w := by
  go_enter Tryz.func215, Tryz.ntmps215
  go_wp2_with fail
  go_ret
  exact ⟨rfl, rfl⟩
def pa_t (c : Nat) : ByteArray := ⟨#[UInt8.ofNat c]⟩
theorem pa_dec (c : Nat) (h : 48 ≤ c ∧ c ≤ 57) : Utf8.decode (pa_t c) 0 = (c, 1) := by
  obtain ⟨k, rfl⟩ : ∃ k : _root_.Fin 10, c = 48 + k.val := ⟨⟨c - 48, by omega⟩, by simp; omega⟩
  revert k
  decide +kernel
set_option maxRecDepth 100000 in
set_option maxHeartbeats 1000000 in
theorem pa_anyE (c : Nat) (h : 49 ≤ c ∧ c ≤ 57) (w : World) : Calls Tryz.prog 176 #[.string (pa_t c), .string ⟨#[69, 101]⟩] w fun e w' => e = .returned (.int .i64 (-1)) ∧ Fr noB w w' := by
  have H0 := pa_shouldE
  have R0 := fun W => pa_runeE c W h
  have hz : (pa_t c).size = 1 := rfl
  have n0 : ∀ ty, (Instr.next (.pointer (some ⟨w.heap.size, 0, none⟩)) true ty).run Tryz.prog (w.iter (pa_t c) 0) = _ := fun ty => run_next_any w (pa_t c) 0 ty (by rw [hz]; omega)
  have n1 : ∀ ty, (Instr.next (.pointer (some ⟨w.heap.size, 0, none⟩)) true ty).run Tryz.prog (w.iter (pa_t c) 1) = _ := fun ty => run_next_end w (pa_t c) 1 ty (by rw [hz]; omega)
  rw [pa_dec c (by omega)] at n0
  simp only [Nat.zero_add] at n0
  have hF : Hid (Fr noB w (w.iter (pa_t c) 1)) := (Fr.refl noB w).alloc _
  generalize pa_t c = s at *
  have he : (⟨#[69, 101]⟩ : ByteArray).size = 2 := rfl
  have hne : (⟨#[69, 101]⟩ : ByteArray).toList.isEmpty = false := by rw [ByteArray.toList_eq]; rfl
  generalize (⟨#[69, 101]⟩ : ByteArray) = t at *
  go_enter Tryz.func176, Tryz.ntmps176
  go_wp2_with (first | (go_at_call 215; refine (H0 _).mono ?_; rintro e w1 ⟨rfl, rfl⟩))
  refine wp_loop_rounds 3 ?_
  rw [rounds_succ]
  go_wp2_with (go_at_call 188; refine (R0 _).mono ?_; rintro e w2 ⟨rfl, rfl⟩)
  rw [rounds_succ]
  go_wp2_with fail
  go_ret
  exact ⟨rfl, hF.out⟩
set_option maxRecDepth 100000 in
theorem pa_lower (c : Nat) (w : World) : Calls Tryz.prog 194 #[.int .u8 (c : Int)] w fun e w' => e = .returned (.int .u8 (bits .or .u8 (c : Int) 32)) ∧ w' = w := by
  go_enter Tryz.func194, Tryz.ntmps194
  go_wp2_with fail
  go_ret
  exact ⟨rfl, rfl⟩
/-- A text whose bytes are told one by one. -/
theorem pa_text_at (L : List Nat) (hL : ∀ x ∈ L, x < 256) : ∃ s : ByteArray, s = ⟨(L.map UInt8.ofNat).toArray⟩ ∧ s.size = L.length ∧ ∀ (i : Nat) (h : i < s.size) (h2 : i < L.length), (s[i]'h).toNat = L[i] := by
  refine ⟨_, rfl, by simp [ByteArray.size], fun i h h2 => ?_⟩
  show (((L.map UInt8.ofNat).toArray)[i]'_).toNat = _
  have := hL L[i] (List.getElem_mem h2)
  simp
  omega
/-- What the library's reader of floats reads of variables. -/
structure PaTab (w : World) : Prop where
  o : 6 < w.heap.size ∧ w.cell? ⟨6, 0, none⟩ = some (.bool true)
  i : 15 < w.heap.size ∧ w.cell? ⟨15, 0, none⟩ = some (.int .u64 52)
theorem PaTab.fr {w w' : World} (h : PaTab w) (hF : Fr noB w w') : PaTab w' := by
  obtain ⟨⟨a1, a2⟩, ⟨b1, b2⟩⟩ := h
  have hz := hF.size
  exact ⟨⟨by omega, (hF.cell a1 id).trans a2⟩, ⟨by omega, (hF.cell b1 id).trans b2⟩⟩
set_option maxRecDepth 100000 in
theorem pa_bool2u (w : World) : Calls Tryz.prog 228 #[.bool false] w fun e w' => e = .returned (.int .u64 0) ∧ w' = w := by
  go_enter Tryz.func228, Tryz.ntmps228
  go_wp2_with fail
  go_ret
  exact ⟨rfl, rfl⟩
theorem pa_cutPrefix (s p : ByteArray) (w : World) : Calls Tryz.prog 175 #[.string s, .string p] w fun e w' => e = .returned (.tuple #[.string (baL (Lib.trimPrefix s.data.toList p.data.toList)), .bool (Lib.hasPrefix s.data.toList p.data.toList)]) ∧ w' = w :=
  Any.strings_CutPrefix Tryz.laysLaysn103 s p w
theorem pa_trimPrefix (s p : ByteArray) (w : World) : Calls Tryz.prog 217 #[.string s, .string p] w fun e w' => e = .returned (.string (baL (Lib.trimPrefix s.data.toList p.data.toList))) ∧ w' = w :=
  Any.strings_TrimPrefix Tryz.laysLaysn101 s p w
theorem pa_trimLeft (s : ByteArray) (c : UInt8) (hc : c.toNat < 128) (w : World) : Calls Tryz.prog 179 #[.string s, .string ⟨#[c]⟩] w fun e w' => e = .returned (.string (baL (Lib.trimLeftB s.data.toList c))) ∧ w' = w :=
  Any.strings_TrimLeft_one Tryz.laysLaysn161 s c hc w
theorem pa_itoa1 (w : World) : Calls Tryz.prog 39 #[.int .i64 1] w fun e w' => e = .returned (.string ⟨#[49]⟩) ∧ w' = w := by
  have h := Any.strconv_Itoa_small Tryz.laysLaysn171 1 (by decide) w
  rw [show (Lib.decDigits 1).toArray = #[49] by rw [Lib.decDigits_one (by omega)]; rfl] at h
  exact h
set_option maxRecDepth 100000 in
theorem pa_isDig (c : Nat) (h : 48 ≤ c ∧ c ≤ 57) (w : World) : Calls Tryz.prog 216 #[.int .i32 (c : Int)] w fun e w' => e = .returned (.bool true) ∧ w' = w := by
  go_enter Tryz.func216, Tryz.ntmps216
  go_wp2_with fail
  go_ret
  exact ⟨ret_bool (by simp; omega), rfl⟩
set_option maxRecDepth 100000 in
set_option maxHeartbeats 1000000 in
theorem pa_allDig1 (c : Nat) (h : 48 ≤ c ∧ c ≤ 57) (w : World) : Calls Tryz.prog 177 #[.string (pa_t c)] w fun e w' => e = .returned (.bool true) ∧ Fr noB w w' := by
  have HD := pa_isDig c h
  have n0 : ∀ ty, (Instr.next (.pointer (some ⟨w.heap.size, 0, none⟩)) true ty).run Tryz.prog (w.iter (pa_t c) 0) = _ := fun ty => run_next_any w _ 0 ty (show 0 < 1 by omega)
  have n1 : ∀ ty, (Instr.next (.pointer (some ⟨w.heap.size, 0, none⟩)) true ty).run Tryz.prog (w.iter (pa_t c) 1) = _ := fun ty => run_next_end w _ 1 ty (show ¬ 1 < 1 by omega)
  rw [pa_dec c h] at n0
  simp only [Nat.zero_add] at n0
  have hF : Hid (Fr noB w (w.iter (pa_t c) 1)) := (Fr.refl noB w).alloc _
  have hne : ¬ (pa_t c).toList = [] := by rw [ByteArray.toList_eq]; simp [pa_t]
  generalize pa_t c = s at *
  go_enter Tryz.func177, Tryz.ntmps177
  go_wp2_with fail
  refine wp_loop_rounds 3 ?_
  rw [rounds_succ]
  go_wp2_with (go_at_call 216; refine (HD _).mono ?_; rintro e w2 ⟨rfl, rfl⟩)
  rw [rounds_succ]
  go_wp2_with fail
  go_ret
  exact ⟨ret_bool (by simp [hne]), hF.out⟩
set_option maxRecDepth 100000 in
set_option maxHeartbeats 1000000 in
theorem pa_power0 (w : World) : Calls Tryz.prog 178 #[.string ⟨#[48]⟩] w fun e w' => e = .returned (.tuple #[.int .i64 0, .bool true]) ∧ Fr noB w w' := by
  have H1 := pa_cutPrefix ⟨#[48]⟩ ⟨#[45]⟩
  have H2 := pa_trimPrefix ⟨#[48]⟩ ⟨#[43]⟩
  rw [show baL (Lib.trimPrefix (⟨#[48]⟩ : ByteArray).data.toList (⟨#[45]⟩ : ByteArray).data.toList) = ⟨#[48]⟩ from rfl, show Lib.hasPrefix (⟨#[48]⟩ : ByteArray).data.toList (⟨#[45]⟩ : ByteArray).data.toList = false from rfl] at H1
  rw [show baL (Lib.trimPrefix (⟨#[48]⟩ : ByteArray).data.toList (⟨#[43]⟩ : ByteArray).data.toList) = ⟨#[48]⟩ from rfl] at H2
  have H3 : ∀ W, Calls Tryz.prog 177 #[.string ⟨#[48]⟩] W fun e w' => e = .returned (.bool true) ∧ Fr noB W w' := fun W => pa_allDig1 48 (by omega) W
  have hd : Utf8.decode ⟨#[48]⟩ 0 = (48, 1) := pa_dec 48 (by omega)
  have hz : (⟨#[48]⟩ : ByteArray).size = 1 := rfl
  obtain ⟨s, hs⟩ : ∃ s, (⟨#[48]⟩ : ByteArray) = s := ⟨_, rfl⟩
  rw [hs] at H1 H2 H3 hd hz ⊢
  have HD : Hid _ := And.intro hd hz
  clear hs hd hz
  go_enter Tryz.func178, Tryz.ntmps178
  go_wp2_with (first
    | (go_at_call 175; refine (H1 _).mono ?_; rintro e w1 ⟨rfl, rfl⟩)
    | (go_at_call 217; refine (H2 _).mono ?_; rintro e w1 ⟨rfl, rfl⟩))
  refine (H3 _).mono ?_
  rintro e w3 ⟨rfl, hF⟩
  have n0 : ∀ ty, (Instr.next (.pointer (some ⟨w3.heap.size, 0, none⟩)) true ty).run Tryz.prog (w3.iter s 0) = _ := fun ty => run_next_any w3 _ 0 ty (by rw [HD.out.2]; omega)
  have n1 : ∀ ty, (Instr.next (.pointer (some ⟨w3.heap.size, 0, none⟩)) true ty).run Tryz.prog (w3.iter s 1) = _ := fun ty => run_next_end w3 _ 1 ty (by rw [HD.out.2]; omega)
  rw [HD.out.1] at n0
  simp only [Nat.zero_add] at n0
  have hG : Hid (Fr noB _ (w3.iter s 1)) := hF.alloc _
  clear hF
  go_wp2_with fail
  refine wp_loop_rounds 3 ?_
  rw [rounds_succ]
  go_wp2_with fail
  rw [rounds_succ]
  go_wp2_with fail
  go_ret2
  exact ⟨rfl, hG.out⟩
theorem pa_cut (c : Nat) (h : 49 ≤ c ∧ c ≤ 57) (w : World) (hX : XTab w) : Calls Tryz.prog 90 #[.string (pa_t c), .string ⟨#[46]⟩] w fun e w' => e = .returned (.tuple #[.string (pa_t c), .string ⟨#[]⟩, .bool false]) ∧ Fr noB w w' := by
  have h0 := cutS_any (pa_t c) ⟨#[46]⟩ w hX (show 1 < 4294967281 by omega)
  have hc : (46 : UInt8) ∉ [UInt8.ofNat c] := by
    intro e
    rw [List.mem_singleton] at e
    have e2 := congrArg UInt8.toNat e
    simp at e2
    omega
  rw [show Lib.cut (pa_t c).data.toList (⟨#[46]⟩ : ByteArray).data.toList = ([UInt8.ofNat c], [], false) from cut_miss 46 [UInt8.ofNat c] hc] at h0
  refine h0.mono ?_
  rintro e w' ⟨rfl, h2⟩
  first
    | exact ⟨rfl, h2⟩
    | (subst h2; exact ⟨rfl, Fr.refl _ _⟩)
    | (obtain ⟨n, rfl⟩ := h2; exact ⟨rfl, (Fr.refl _ _).drewN n⟩)
theorem pa_results {P : Program} {fn : Func} {p q : Tmp} {ty : TypeId} (h : fn.results = #[.cell p ty, .tmp q]) (tmps : Array Value) (w : World) (g : Nat) (t : TypeId) (cs : Array Value) (fr : Nat × Nat) (d : TypeDesc)
    (hp : tmps.getD p undef = .pointer (some ⟨g, 0, none⟩)) (hg : w.heap[g]? = some (.cells cs t fr))
    (hu : P.underlying ty = some d) (hd : (match d with | .struct _ | .array _ _ => true | _ => false) = true) (hi : (P.info? ty).map (·.size) = some cs.size) :
    (results fn tmps).run P w = .ok (.tuple #[.agg cs, tmps.getD q undef]) w := by
  have hp' : tmps[p]?.getD undef = .pointer (some ⟨g, 0, none⟩) := by simpa using hp
  simp [results, h, hp', asAddr, run_loadVar_row w g t ty cs fr d hg hu hd hi]
theorem pa_info : (Tryz.prog.info? 154).map (·.size) = some 3 := by kernel_rfl
set_option maxRecDepth 100000 in
set_option maxHeartbeats 4000000 in
theorem pa_read1 (w : World) : Calls Tryz.prog 241 #[.string ⟨#[48, 46, 49, 69, 49]⟩] w fun e w' => e = .returned (.tuple #[.int .u64 1, .int .i64 0, .bool false, .bool false, .bool false, .int .i64 5, .bool true]) ∧ w' = w := by
  have L1 := pa_lower 46
  have L2 := pa_lower 69
  rw [show bits .or .u8 ((46 : Nat) : Int) 32 = 46 by decide] at L1
  rw [show bits .or .u8 ((69 : Nat) : Int) 32 = 101 by decide] at L2
  obtain ⟨s, hs, hz, hb⟩ := pa_text_at [48, 46, 49, 69, 49] (by decide)
  have hs' : (⟨#[48, 46, 49, 69, 49]⟩ : ByteArray) = s := by rw [hs]; rfl
  rw [hs']
  have b0 : ∀ h, (s[0]'h).toNat = 48 := fun h => hb 0 h (by decide)
  have b1 : ∀ h, (s[1]'h).toNat = 46 := fun h => hb 1 h (by decide)
  have b2 : ∀ h, (s[2]'h).toNat = 49 := fun h => hb 2 h (by decide)
  have b3 : ∀ h, (s[3]'h).toNat = 69 := fun h => hb 3 h (by decide)
  have b4 : ∀ h, (s[4]'h).toNat = 49 := fun h => hb 4 h (by decide)
  have hz : s.size = 5 := hz
  clear hs hs' hb
  go_enter Tryz.func241, Tryz.ntmps241
  go_wp2_with fail
  go_step3
  go_wp2_with (first | (go_at_call 194; refine (L1 _).mono ?_; rintro e w1 ⟨rfl, rfl⟩))
  go_step3
  go_wp2_with fail
  refine wp_loop_rounds 6 ?_
  rw [rounds_succ]
  go_wp2_with fail
  rw [rounds_succ]
  go_wp2_with fail
  rw [rounds_succ]
  go_wp2_with fail
  rw [rounds_succ]
  go_wp2_with (first | (go_at_call 194; refine (L2 _).mono ?_; rintro e w1 ⟨rfl, rfl⟩))
  refine wp_loop_rounds 3 ?_
  rw [rounds_succ]
  go_wp2_with fail
  rw [rounds_succ]
  go_wp2_with fail
  rw [Exit.noGoto_ret]
  refine bodyPost_ret ?_ rfl ⟨rfl, rfl⟩
  simp [results, Tryz.results241, go_sem]
set_option maxRecDepth 100000 in
set_option maxHeartbeats 1000000 in
theorem pa_exact1 (w : World) (hT : PaTab w) : Calls Tryz.prog 250 #[.int .u64 1, .int .i64 0, .bool false] w fun e w' => e = .returned (.tuple #[.float .f64 4607182418800017408, .bool true]) ∧ w' = w := by
  obtain ⟨⟨a1, a2⟩, ⟨b1, b2⟩⟩ := hT
  have hq : floatOfInt .f64 1 = 4607182418800017408 := by decide +kernel
  go_enter Tryz.func250, Tryz.ntmps250
  go_wp2_with fail
  go_ret2
  exact ⟨rfl, rfl⟩
set_option maxRecDepth 100000 in
set_option maxHeartbeats 1000000 in
theorem pa_special1 (w : World) : Calls Tryz.prog 240 #[.string ⟨#[48, 46, 49, 69, 49]⟩] w fun e w' => e = .returned (.tuple #[.float .f64 0, .int .i64 0, .bool false]) ∧ w' = w := by
  obtain ⟨s, hs, hz, hb⟩ := pa_text_at [48, 46, 49, 69, 49] (by decide)
  have hs' : (⟨#[48, 46, 49, 69, 49]⟩ : ByteArray) = s := by rw [hs]; rfl
  rw [hs']
  have b0 : ∀ h, (s[0]'h).toNat = 48 := fun h => hb 0 h (by decide)
  have hz : s.size = 5 := hz
  clear hs hs' hb
  go_enter Tryz.func240, Tryz.ntmps240
  go_wp2_with fail
  go_ret3
  exact ⟨rfl, rfl⟩
set_option maxRecDepth 100000 in
set_option maxHeartbeats 1000000 in
theorem pa_atof1 (w : World) (hT : PaTab w) : Calls Tryz.prog 237 #[.string ⟨#[48, 46, 49, 69, 49]⟩] w fun e w' => e = .returned (.tuple #[.float .f64 4607182418800017408, .int .i64 5, .nilIface]) ∧ w' = w := by
  have a2 := hT.o.2
  have HT : Hid (PaTab w) := hT
  clear hT
  have H1 := pa_special1 w
  have H2 := pa_read1 w
  obtain ⟨s, hs⟩ : ∃ s, (⟨#[48, 46, 49, 69, 49]⟩ : ByteArray) = s := ⟨_, rfl⟩
  rw [hs] at H1 H2 ⊢
  clear hs
  have H3 := pa_bool2u w
  have H4 := pa_exact1 w HT.out
  go_enter Tryz.func237, Tryz.ntmps237
  go_wp2_with (first
    | (go_at_call 240; refine H1.mono ?_; rintro e w1 ⟨rfl, rfl⟩)
    | (go_at_call 241; refine H2.mono ?_; rintro e w1 ⟨rfl, rfl⟩)
    | (go_at_call 228; refine H3.mono ?_; rintro e w1 ⟨rfl, rfl⟩)
    | (go_at_call 250; refine H4.mono ?_; rintro e w1 ⟨rfl, rfl⟩))
  go_ret3
  exact ⟨rfl, rfl⟩
set_option maxRecDepth 100000 in
theorem pa_prefix1 (w : World) (hT : PaTab w) : Calls Tryz.prog 232 #[.string ⟨#[48, 46, 49, 69, 49]⟩, .int .i64 64] w fun e w' => e = .returned (.tuple #[.float .f64 4607182418800017408, .int .i64 5, .nilIface]) ∧ w' = w := by
  have H1 := pa_atof1 w hT
  obtain ⟨s, hs⟩ : ∃ s, (⟨#[48, 46, 49, 69, 49]⟩ : ByteArray) = s := ⟨_, rfl⟩
  rw [hs] at H1 ⊢
  clear hs hT
  go_enter Tryz.func232, Tryz.ntmps232
  go_wp2_with (go_at_call 237; refine H1.mono ?_; rintro e w1 ⟨rfl, rfl⟩)
  go_ret3
  exact ⟨rfl, rfl⟩
set_option maxRecDepth 100000 in
theorem pa_iparse1 (w : World) (hT : PaTab w) : Calls Tryz.prog 221 #[.string ⟨#[48, 46, 49, 69, 49]⟩, .int .i64 64] w fun e w' => e = .returned (.tuple #[.float .f64 4607182418800017408, .nilIface]) ∧ w' = w := by
  have H1 := pa_prefix1 w hT
  have hz : (⟨#[48, 46, 49, 69, 49]⟩ : ByteArray).size = 5 := rfl
  obtain ⟨s, hs⟩ : ∃ s, (⟨#[48, 46, 49, 69, 49]⟩ : ByteArray) = s := ⟨_, rfl⟩
  rw [hs] at H1 hz ⊢
  clear hs hT
  go_enter Tryz.func221, Tryz.ntmps221
  go_wp2_with (go_at_call 232; refine H1.mono ?_; rintro e w1 ⟨rfl, rfl⟩)
  go_ret2
  exact ⟨rfl, rfl⟩
set_option maxRecDepth 100000 in
theorem pa_parse1 (w : World) (hT : PaTab w) : Calls Tryz.prog 180 #[.string ⟨#[48, 46, 49, 69, 49]⟩, .int .i64 64] w fun e w' => e = .returned (.tuple #[.float .f64 4607182418800017408, .nilIface]) ∧ w' = w := by
  have H1 := pa_iparse1 w hT
  obtain ⟨s, hs⟩ : ∃ s, (⟨#[48, 46, 49, 69, 49]⟩ : ByteArray) = s := ⟨_, rfl⟩
  rw [hs] at H1 ⊢
  clear hs hT
  go_enter Tryz.func180, Tryz.ntmps180
  go_wp2_with (go_at_call 221; refine H1.mono ?_; rintro e w1 ⟨rfl, rfl⟩)
  go_ret2
  exact ⟨rfl, rfl⟩
set_option maxRecDepth 100000 in
set_option maxHeartbeats 1000000 in
theorem pa_nread1 (w : World) (hX : XTab w) : Calls Tryz.prog 142 #[.string (pa_t 49)] w fun e w' => e = .returned (.tuple #[.agg #[.bool false, .string (pa_t 49), .int .i64 1], .bool true]) ∧ Fr noB w w' := by
  have HX : Hid (XTab w) := hX
  have H1 := pa_cutPrefix (pa_t 49) ⟨#[45]⟩
  rw [show baL (Lib.trimPrefix (pa_t 49).data.toList (⟨#[45]⟩ : ByteArray).data.toList) = pa_t 49 from rfl, show Lib.hasPrefix (pa_t 49).data.toList (⟨#[45]⟩ : ByteArray).data.toList = false from rfl] at H1
  have H2 := pa_anyE 49 (by omega)
  have H3 : Hid (∀ W, Fr noB w W → Calls Tryz.prog 90 #[.string (pa_t 49), .string ⟨#[46]⟩] W fun e w' => e = .returned (.tuple #[.string (pa_t 49), .string ⟨#[]⟩, .bool false]) ∧ Fr noB W w') := fun W hW => pa_cut 49 (by omega) W (HX.out.fr hW)
  have H4 : ∀ W, Calls Tryz.prog 177 #[.string (pa_t 49)] W fun e w' => e = .returned (.bool true) ∧ Fr noB W w' := fun W => pa_allDig1 49 (by omega) W
  have H6 := pa_power0
  have H7 := pa_trimLeft (pa_t 49) 48 (by decide)
  rw [show baL (Lib.trimLeftB (pa_t 49).data.toList 48) = pa_t 49 from rfl] at H7
  have H8 := trimS_any (pa_t 49) 48 (by decide)
  rw [show (⟨(Lib.trimRightB (pa_t 49).data.toList 48).toArray⟩ : ByteArray) = pa_t 49 from rfl] at H8
  have hcat : pa_t 49 ++ ⟨#[]⟩ = pa_t 49 := by decide
  have z1 : (pa_t 49).size = 1 := rfl
  generalize pa_t 49 = s at *
  go_enter Tryz.func142, Tryz.ntmps142
  go_wp2_with fail
  obtain ⟨W0, hW0⟩ : ∃ W0, w.alloc (.cells #[.bool false, .string ⟨#[]⟩, .int .i64 0] 154 (0, 0)) = W0 := ⟨_, rfl⟩
  have hB : Hid (W0.heap[w.heap.size]? = some (.cells #[.bool false, .string ⟨#[]⟩, .int .i64 0] 154 (0, 0))) := by rw [← hW0]; exact heap_alloc_new w _
  have hF0 : Fr noB w W0 := by rw [← hW0]; exact (Fr.refl noB w).alloc _
  rw [hW0]
  clear hW0
  go_wp2_with (first
    | (go_at_call 175; refine (H1 _).mono ?_; rintro e w1 ⟨rfl, rfl⟩)
    | (go_at_call 176; refine (H2 _).mono ?_; rintro e w2 ⟨rfl, hF2⟩)
    | (go_at_call 90; refine (H3.out _ (hF0.trans hF2)).mono ?_; rintro e w3 ⟨rfl, hF3⟩)
    | (go_at_call 177; refine (H4 _).mono ?_; rintro e w4 ⟨rfl, hF4⟩)
    | (go_at_call 178; refine (H6 _).mono ?_; rintro e w6 ⟨rfl, hF6⟩
       have hB6 : w6.heap[w.heap.size]? = some (.cells #[.bool false, .string ⟨#[]⟩, .int .i64 0] 154 (0, 0)) := ((((hF2.trans hF3).trans hF4).trans hF6).obj hB.out id)
       have hG6 : Fr noB w w6 := hF0.trans (((hF2.trans hF3).trans hF4).trans hF6)
       have q1 := (setOf 2 (.int .i64 1) (setOf 1 (.string s) (setOf 0 (.bool false) hB6)))
       have HQ : Hid _ := And.intro q1 (((hG6.setCell ⟨w.heap.size, 0, none⟩ (Or.inr (Nat.le_refl _)) (.bool false)).setCell ⟨w.heap.size, 1, none⟩ (Or.inr (Nat.le_refl _)) (.string s)).setCell ⟨w.heap.size, 2, none⟩ (Or.inr (Nat.le_refl _)) (.int .i64 1))
       have c0 := cellOf (o := 0) hB6 rfl
       have c1 := cellOf (o := 1) hB6 rfl
       have c2 := cellOf (o := 2) hB6 rfl
       have f0 := freeOf 0 hB6
       have f1 := freeOf 1 hB6
       have f2 := freeOf 2 hB6
       clear hB6 hG6 q1 hF2 hF3 hF4 hF6)
    | (go_at_call 179; refine (H7 _).mono ?_; rintro e w7 ⟨rfl, rfl⟩)
    | (go_at_call 92; refine (H8 _ (by omega)).mono ?_; rintro e w8 ⟨rfl, rfl⟩))
  exact bodyPost_ret (pa_results Tryz.results142 _ _ w.heap.size 154 #[.bool false, .string s, .int .i64 1] (0, 0) _ rfl HQ.out.1 Tryz.underlying154 rfl pa_info) rfl ⟨rfl, HQ.out.2⟩
set_option maxRecDepth 100000 in
set_option maxHeartbeats 1000000 in
theorem pa_nearest1 (w : World) (hT : PaTab w) : Calls Tryz.prog 143 #[.agg #[.bool false, .string (⟨#[49]⟩), .int .i64 1]] w fun e w' => e = .returned (.tuple #[.float .f64 4607182418800017408, .int .i64 0]) ∧ Fr noB w w' := by
  have H1 := pa_itoa1
  have H2 : Hid (∀ W, Fr noB w W → Calls Tryz.prog 180 #[.string ⟨#[48, 46, 49, 69, 49]⟩, .int .i64 64] W fun e w' => e = .returned (.tuple #[.float .f64 4607182418800017408, .nilIface]) ∧ w' = W) := fun W hW => pa_parse1 W (hT.fr hW)
  clear hT
  have c1 : (⟨#[48, 46]⟩ : ByteArray) ++ ⟨#[49]⟩ = ⟨#[48, 46, 49]⟩ := by decide
  have c2 : (⟨#[48, 46, 49]⟩ : ByteArray) ++ ⟨#[69]⟩ = ⟨#[48, 46, 49, 69]⟩ := by decide
  have c3 : (⟨#[48, 46, 49, 69]⟩ : ByteArray) ++ ⟨#[49]⟩ = ⟨#[48, 46, 49, 69, 49]⟩ := by decide
  have hne : (⟨#[49]⟩ : ByteArray).toList.isEmpty = false := by rw [ByteArray.toList_eq]; rfl
  go_enter Tryz.func143, Tryz.ntmps143
  go_wp2_with fail
  obtain ⟨W0, hW0⟩ : ∃ W0, w.alloc (.cells #[.bool false, .string ⟨#[49]⟩, .int .i64 1] 154 (0, 0)) = W0 := ⟨_, rfl⟩
  have hB : W0.heap[w.heap.size]? = some (.cells #[.bool false, .string ⟨#[49]⟩, .int .i64 1] 154 (0, 0)) := by rw [← hW0]; exact heap_alloc_new w _
  have hF0 : Fr noB w W0 := by rw [← hW0]; exact (Fr.refl noB w).alloc _
  rw [hW0]
  clear hW0
  have k0 := cellOf (o := 0) hB rfl
  have k1 := cellOf (o := 1) hB rfl
  have k2 := cellOf (o := 2) hB rfl
  clear hB
  go_wp2_with fail
  go_quiet ((first | (go_at_call 39; exact Calls.quiet_of_same (H1 _)) | (go_at_call 180; exact Calls.quiet_of_same (H2.out _ (hF0.drewN _))) | (go_at_call 180; exact Calls.quiet_of_same (H2.out _ hF0))))
  go_wp2_with fail
  go_ret2
  exact ⟨rfl, hF0.drewN _⟩
set_option maxRecDepth 100000 in
set_option maxHeartbeats 1000000 in
theorem pa_nparse1 (w : World) (hX : XTab w) (hT : PaTab w) : Calls Tryz.prog 107 #[.string (pa_t 49)] w fun e w' => e = .returned (.tuple #[.float .f64 4607182418800017408, .int .i64 0]) ∧ Fr noB w w' := by
  have H1 := pa_nread1 w hX
  have H2 : Hid (∀ W, Fr noB w W → Calls Tryz.prog 143 #[.agg #[.bool false, .string (pa_t 49), .int .i64 1]] W fun e w' => e = .returned (.tuple #[.float .f64 4607182418800017408, .int .i64 0]) ∧ Fr noB W w') := fun W hW => pa_nearest1 W (hT.fr hW)
  clear hT hX
  have hz : (pa_t 49).size = 1 := rfl
  generalize pa_t 49 = s at *
  go_enter Tryz.func107, Tryz.ntmps107
  go_wp2_with (first | (go_at_call 142; refine H1.mono ?_; rintro e w1 ⟨rfl, hF1⟩))
  refine (H2.out _ (hF1.alloc _)).mono ?_
  rintro e w2 ⟨rfl, hF2⟩
  have hG2 : Fr noB w w2 := (hF1.alloc _).trans hF2
  clear hF1 hF2
  go_wp2_with fail
  go_ret2
  exact ⟨rfl, hG2⟩
#print axioms pa_nparse1
end Go.Proofs.YtkohohjpnlhioaaGreatDoor
