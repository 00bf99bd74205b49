/- Lexis' reader: look, peek, take, skip. -/
import Derived.Test.YtkohohjpnlhioaaGreatDoorRRfV
import Derived.Test.YtkohohjpnlhioaaGreatDoorLJmp
import Derived.BigQuiet
namespace Go.Proofs.YtkohohjpnlhioaaGreatDoor
open Go.RowKit Go.Shelf

/-- Lexis' reader lies in block rb: its text, and where it is gone on. -/
structure LAt (w : World) (rb : Nat) (s : ByteArray) (p : Nat) : Prop where
  o : w.heap[rb]? = some (.cells #[.string s, .int .i64 (p : Int)] 66 (0, 0))
theorem LAt.fr {S : Nat → Prop} {w w' : World} {rb : Nat} {s : ByteArray} {p : Nat} (h : LAt w rb s p) (hF : Fr S w w') (hB : ¬ S rb) : LAt w' rb s p := ⟨hF.obj h.o hB⟩
section
variable {w : World} {rb : Nat} {s : ByteArray} {p : Nat} (h : LAt w rb s p)
include h
theorem LAt.c0 : w.cell? ⟨rb, 0, none⟩ = some (.string s) := cellOf (o := 0) h.o rfl
theorem LAt.c1 : w.cell? ⟨rb, 1, none⟩ = some (.int .i64 (p : Int)) := cellOf (o := 1) h.o rfl
theorem LAt.f : ∀ o, w.frozen? ⟨rb, o, none⟩ = false := fun o => freeOf o h.o
theorem LAt.s1 (q : Nat) : LAt (w.setCell ⟨rb, 1, none⟩ (.int .i64 (q : Int))) rb s q := ⟨setOf 1 _ h.o⟩
theorem LAt.setO (b o : Nat) (v : Value) (hb : rb ≠ b) : LAt (w.setCell ⟨b, o, none⟩ v) rb s p := ⟨(Below.heap_setCell _ _ _ _ hb).trans h.o⟩
theorem LAt.lt : rb < w.heap.size := lt_of_block h.o
end
/-- The character that stands there, and how many bytes it has; behind the end -1 and 0. -/
def lkR (s : ByteArray) (p : Nat) : Int := if p < s.size then ((Utf8.decode s p).1 : Int) else -1
def lkN (s : ByteArray) (p : Nat) : Nat := if p < s.size then (Utf8.decode s p).2 else 0
theorem lkN_le (s : ByteArray) (p : Nat) (hp : p ≤ s.size) : p + lkN s p ≤ s.size := by
  unfold lkN
  split
  · rename_i h
    exact width_fits s p h
  · omega
theorem lx_to {Q : Exit → Act → World → Prop} {a : Act} {w : World} (b : Act) (h : a = b) (hq : Q .normal b w) : Q .normal a w := by
  rw [h]
  exact hq
set_option maxRecDepth 100000 in
set_option maxHeartbeats 2000000 in
theorem lxlook (rb : Nat) (s : ByteArray) (p : Nat) (w : World) (h : LAt w rb s p) (hT : Tabs w) (hp : p ≤ s.size) :
    Calls Tryz.prog 103 #[.pointer (some ⟨rb, 0, none⟩)] w fun e w' => e = .returned (.tuple #[.int .i32 (lkR s p), .int .i64 (lkN s p : Int)]) ∧ Fr noB w w' := by
  have d0 := h.c0; have d1 := h.c1
  by_cases hlt : p < s.size
  · have HV : Hid (lkR s p = ((Utf8.decode s p).1 : Int) ∧ lkN s p = (Utf8.decode s p).2) := by
      unfold lkR lkN
      exact ⟨if_pos hlt, if_pos hlt⟩
    have HD : Hid (∀ W, Tabs W → _) := fun W hW => dec_any s p hlt W hW
    obtain ⟨⟨r, n⟩, hd⟩ : ∃ d, Utf8.decode s p = d := ⟨_, rfl⟩
    rw [hd] at HV HD
    have hne : ((p : Int) == (s.size : Int)) = false := by
      have : ¬ (p : Int) = (s.size : Int) := by omega
      simpa using this
    have HTT : Hid (∀ W, Fr noB w W → Tabs W) := fun W hF => hT.keep hF
    obtain ⟨e1, e2⟩ := HV.out
    rw [e1, e2]
    clear h hd HV hT e1 e2
    go_enter Tryz.func103, Tryz.ntmps103
    go_wp2_with fail
    go_quiet (fail)
    go_wp2_with fail
    go_region_with (go_at_call 29; refine (HD.out _ (HTT.out _ (by first | exact ((Fr.refl noB w).drewN _).drew | exact (Fr.refl noB w).drew))).mono ?_; rintro e w1 ⟨rfl, hF1⟩)
    all_goals
      refine lx_to { tmps := #[.pointer (some ⟨rb, 0, none⟩), undef, .int .i32 (r : Int), .int .i64 (n : Int), .pointer (some ⟨rb, 0, none⟩), .pointer (some ⟨rb, 0, none⟩), .pointer (some ⟨rb, 1, none⟩), .int .i64 (p : Int), .pointer (some ⟨rb, 0, none⟩), .pointer (some ⟨rb, 0, none⟩), .pointer (some ⟨rb, 0, none⟩), .string s, .int .i64 (s.size : Int), .bool false, .pointer (some ⟨rb, 0, none⟩), .pointer (some ⟨rb, 0, none⟩), .pointer (some ⟨rb, 0, none⟩), .string s, .pointer (some ⟨rb, 0, none⟩), .pointer (some ⟨rb, 0, none⟩), .pointer (some ⟨rb, 1, none⟩), .int .i64 (p : Int), .string (s.extract p s.size), .tuple #[.int .i32 (r : Int), .int .i64 (n : Int)], .int .i32 (r : Int), .int .i64 (n : Int)], defers := [] } (by kernel_rfl) ?_
      go_wp2_with fail
      go_ret2
      exact ⟨rfl, Fr.trans (by first | exact ((Fr.refl noB w).drewN _).drew | exact (Fr.refl noB w).drew) hF1⟩
  · have hps : p = s.size := by omega
    have HV : Hid (lkR s p = -1 ∧ lkN s p = 0) := by
      unfold lkR lkN
      exact ⟨if_neg hlt, if_neg hlt⟩
    obtain ⟨e1, e2⟩ := HV.out
    rw [e1, e2]
    subst hps
    clear h HV e1 e2
    go_enter Tryz.func103, Tryz.ntmps103
    go_wp2_with fail
    go_quiet (fail)
    go_wp2_with fail
    go_ret2
    exact ⟨rfl, (Fr.refl noB w).drewN _⟩
set_option maxRecDepth 100000 in
theorem lxpeek (rb : Nat) (s : ByteArray) (p : Nat) (w : World) (h : LAt w rb s p) (hT : Tabs w) (hp : p ≤ s.size) :
    Calls Tryz.prog 75 #[.pointer (some ⟨rb, 0, none⟩)] w fun e w' => e = .returned (.int .i32 (lkR s p)) ∧ Fr noB w w' := by
  have HL := lxlook rb s p w h hT hp
  generalize lkR s p = R at *
  generalize lkN s p = N at *
  go_enter Tryz.func75, Tryz.ntmps75
  go_wp2_with (go_at_call 103; refine HL.mono ?_; rintro e w1 ⟨rfl, hF1⟩)
  go_ret
  exact ⟨rfl, hF1⟩
set_option maxRecDepth 100000 in
theorem lxtake (rb : Nat) (s : ByteArray) (p : Nat) (w : World) (h : LAt w rb s p) (hT : Tabs w) (hp : p ≤ s.size) (hz : s.size ≤ 140737488355328) :
    Calls Tryz.prog 102 #[.pointer (some ⟨rb, 0, none⟩)] w fun e w' => e = .returned (.int .i32 (lkR s p)) ∧ LAt w' rb s (p + lkN s p) ∧ Fr (oneB rb) w w' := by
  have HL := lxlook rb s p w h hT hp
  have HH : Hid _ := h
  have hle := lkN_le s p hp
  generalize lkR s p = R at *
  generalize lkN s p = N at *
  clear h
  go_enter Tryz.func102, Tryz.ntmps102
  go_wp2_with (go_at_call 103; refine HL.mono ?_; rintro e w1 ⟨rfl, hF1⟩; have h1 := HH.out.fr hF1 id; have d1 := h1.c1; have f1 := h1.f)
  go_ret
  exact ⟨rfl, h1.s1 (p + N), hF1.weak.setOne _ _⟩
/-- Behind the character, if it is of the kind. -/
def lkP (K : Int → Bool) (s : ByteArray) (p : Nat) : Nat := if K (lkR s p) = true then p + lkN s p else p
set_option maxRecDepth 100000 in
theorem lxskip (g : Nat) (K : Int → Bool) (eg : ∀ args w, (callFunc g args).run Tryz.prog w = .ok (.enter g args) w) (hg : ∀ (r : Int) (W : World), Calls Tryz.prog g #[.int .i32 r] W fun e w' => e = .returned (.bool (K r)) ∧ w' = W)
    (rb : Nat) (s : ByteArray) (p : Nat) (w : World) (h : LAt w rb s p) (hT : Tabs w) (hp : p ≤ s.size) (hz : s.size ≤ 140737488355328) :
    Calls Tryz.prog 73 #[.pointer (some ⟨rb, 0, none⟩), .func (.func g) #[] #[]] w fun e w' => e = .returned (.bool (K (lkR s p))) ∧ LAt w' rb s (lkP K s p) ∧ Fr (oneB rb) w w' := by
  have HP := lxpeek rb s p w h hT hp
  have HTk : Hid (∀ W, Fr noB w W → _) := fun W hF => lxtake rb s p W (h.fr hF id) (hT.keep hF) hp hz
  have HG := hg (lkR s p)
  have HH : Hid _ := h
  cases hk : K (lkR s p) with
  | true =>
    have HV : Hid (lkP K s p = p + lkN s p) := by show lkP K s p = _; unfold lkP; rw [if_pos hk]
    rw [hk] at HG
    rw [HV.out]
    clear h hT hg hk HV
    generalize lkR s p = R at *
    generalize lkN s p = N at *
    go_enter Tryz.func73, Tryz.ntmps73
    go_wp2_with (first
      | (go_at_call 75; refine HP.mono ?_; rintro e w1 ⟨rfl, hF1⟩)
      | (refine (show Calls _ _ _ _ _ from HG _).mono ?_; rintro e w2 ⟨rfl, rfl⟩)
      | (go_at_call 102; refine (HTk.out _ hF1).mono ?_; rintro e w3 ⟨rfl, hL3, hF3⟩))
    go_ret
    exact ⟨rfl, hL3, hF1.weak.trans hF3⟩
  | false =>
    have HV : Hid (lkP K s p = p) := by show lkP K s p = _; unfold lkP; rw [if_neg (by rw [hk]; simp)]
    rw [hk] at HG
    rw [HV.out]
    clear h hT hg hk HV
    generalize lkR s p = R at *
    go_enter Tryz.func73, Tryz.ntmps73
    go_wp2_with (first
      | (go_at_call 75; refine HP.mono ?_; rintro e w1 ⟨rfl, hF1⟩)
      | (refine (show Calls _ _ _ _ _ from HG _).mono ?_; rintro e w2 ⟨rfl, rfl⟩))
    go_ret
    exact ⟨rfl, HH.out.fr hF1 id, hF1.weak⟩
#print axioms lxlook
#print axioms lxtake
#print axioms lxskip
end Go.Proofs.YtkohohjpnlhioaaGreatDoor
/- Lexis' kinds of characters. -/
namespace Go.Proofs.YtkohohjpnlhioaaGreatDoor
open Go.RowKit Go.Shelf

theorem lret {a b : Bool} (h : a = b) : Ending.returned (.bool a) = .returned (.bool b) := by rw [h]
def dgI (r : Int) : Bool := decide (48 ≤ r) && decide (r ≤ 57)
def ptI (r : Int) : Bool := r == 46
def pwI (r : Int) : Bool := r == 69 || r == 101
def bgI (r : Int) : Bool := (decide (65 ≤ r) && decide (r ≤ 90)) || (decide (97 ≤ r) && decide (r ≤ 122)) || r == 95
def inI (r : Int) : Bool := bgI r || dgI r || ptI r
def spI (r : Int) : Bool := r == 32 || r == 9 || r == 13 || r == 10
set_option maxRecDepth 100000 in
theorem isDigit_lx (r : Int) (w : World) : Calls Tryz.prog 46 #[.int .i32 r] w fun e w' => e = .returned (.bool (dgI r)) ∧ w' = w := by
  by_cases h1 : 48 ≤ r
  · by_cases h2 : r ≤ 57
    all_goals
      go_enter Tryz.func46, Tryz.ntmps46
      go_wp2_with fail
      go_ret
      exact ⟨lret (by unfold dgI; simp; omega), rfl⟩
  · go_enter Tryz.func46, Tryz.ntmps46
    go_wp2_with fail
    go_ret
    exact ⟨lret (by unfold dgI; simp; omega), rfl⟩
set_option maxRecDepth 100000 in
theorem isPoint_lx (r : Int) (w : World) : Calls Tryz.prog 47 #[.int .i32 r] w fun e w' => e = .returned (.bool (ptI r)) ∧ w' = w := by
  go_enter Tryz.func47, Tryz.ntmps47
  go_wp2_with fail
  go_ret
  exact ⟨rfl, rfl⟩
set_option maxRecDepth 100000 in
theorem isPower_lx (r : Int) (w : World) : Calls Tryz.prog 105 #[.int .i32 r] w fun e w' => e = .returned (.bool (pwI r)) ∧ w' = w := by
  cases h : (r == 69) with
  | true =>
    have hr : r = 69 := by simpa using h
    subst hr
    go_enter Tryz.func105, Tryz.ntmps105
    go_wp2_with fail
    go_ret
    exact ⟨rfl, rfl⟩
  | false =>
    have hr : ¬ r = 69 := by simpa using h
    go_enter Tryz.func105, Tryz.ntmps105
    go_wp2_with fail
    go_ret
    exact ⟨lret (by unfold pwI; simp [hr]), rfl⟩
set_option maxRecDepth 100000 in
set_option maxHeartbeats 1000000 in
theorem beginsName_lx (r : Int) (w : World) : Calls Tryz.prog 23 #[.int .i32 r] w fun e w' => e = .returned (.bool (bgI r)) ∧ w' = w := by
  by_cases h1 : 65 ≤ r <;> by_cases h2 : r ≤ 90 <;> by_cases h3 : 97 ≤ r <;> by_cases h4 : r ≤ 122
  all_goals first
    | (exfalso; omega)
    | (go_enter Tryz.func23, Tryz.ntmps23
       go_wp2_with fail
       go_ret
       exact ⟨lret (by unfold bgI; by_cases h5 : r = 95 <;> simp [h5] <;> omega), rfl⟩)
set_option maxRecDepth 100000 in
theorem inName_lx (r : Int) (w : World) : Calls Tryz.prog 24 #[.int .i32 r] w fun e w' => e = .returned (.bool (inI r)) ∧ w' = w := by
  have H1 := beginsName_lx r
  have H2 := isDigit_lx r
  have H3 := isPoint_lx r
  cases hb : bgI r with
  | true =>
    rw [hb] at H1
    go_enter Tryz.func24, Tryz.ntmps24
    go_wp2_with (go_at_call 23; refine (H1 _).mono ?_; rintro e w1 ⟨rfl, rfl⟩)
    go_ret
    exact ⟨lret (by unfold inI; simp [hb]), rfl⟩
  | false =>
    rw [hb] at H1
    cases hd : dgI r with
    | true =>
      rw [hd] at H2
      go_enter Tryz.func24, Tryz.ntmps24
      go_wp2_with (first | (go_at_call 23; refine (H1 _).mono ?_; rintro e w1 ⟨rfl, rfl⟩) | (go_at_call 46; refine (H2 _).mono ?_; rintro e w2 ⟨rfl, rfl⟩))
      go_ret
      exact ⟨lret (by unfold inI; simp [hb, hd]), rfl⟩
    | false =>
      rw [hd] at H2
      go_enter Tryz.func24, Tryz.ntmps24
      go_wp2_with (first | (go_at_call 23; refine (H1 _).mono ?_; rintro e w1 ⟨rfl, rfl⟩) | (go_at_call 46; refine (H2 _).mono ?_; rintro e w2 ⟨rfl, rfl⟩) | (go_at_call 47; refine (H3 _).mono ?_; rintro e w3 ⟨rfl, rfl⟩))
      go_ret
      exact ⟨lret (by unfold inI; simp [hb, hd]), rfl⟩
set_option maxRecDepth 100000 in
theorem space_lx (r : Int) (w : World) : Calls Tryz.prog 74 #[.int .i32 r] w fun e w' => e = .returned (.bool (spI r)) ∧ w' = w := by
  by_cases h1 : r = 32
  · subst h1
    go_enter Tryz.func74, Tryz.ntmps74
    go_wp2_with fail
    go_ret
    exact ⟨rfl, rfl⟩
  by_cases h2 : r = 9
  · subst h2
    go_enter Tryz.func74, Tryz.ntmps74
    go_wp2_with fail
    go_ret
    exact ⟨rfl, rfl⟩
  by_cases h3 : r = 13
  · subst h3
    go_enter Tryz.func74, Tryz.ntmps74
    go_wp2_with fail
    go_ret
    exact ⟨rfl, rfl⟩
  · go_enter Tryz.func74, Tryz.ntmps74
    go_wp2_with fail
    go_ret
    exact ⟨lret (by unfold spI; simp), rfl⟩
#print axioms space_lx
#print axioms inName_lx
end Go.Proofs.YtkohohjpnlhioaaGreatDoor
/- Lexis' reader: a name. -/
namespace Go.Proofs.YtkohohjpnlhioaaGreatDoor
open Go.RowKit Go.Shelf

theorem jumpsTo_ret (J : Nat → Act → World → Prop) (Q : Exit → Act → World → Prop) (a : Act) (w : World) : jumpsTo J Q .ret a w = Q .ret a w := rfl
/-- Where the characters of a kind end. -/
def endF (K : Int → Bool) (s : ByteArray) : Nat → Nat → Nat
  | 0, p => p
  | f + 1, p => if p < s.size ∧ K (lkR s p) = true then endF K s f (p + lkN s p) else p
theorem lkN_pos (s : ByteArray) (p : Nat) (h : p < s.size) : 1 ≤ lkN s p := by
  unfold lkN
  rw [if_pos h]
  exact width_pos s p h
theorem endF_fuel (K : Int → Bool) (s : ByteArray) : ∀ (f g p : Nat), s.size - p ≤ f → s.size - p ≤ g → endF K s f p = endF K s g p
  | 0, 0, _, _, _ => rfl
  | 0, g + 1, p, h1, _ => by rw [endF, endF, if_neg (by omega)]
  | f + 1, 0, p, _, h2 => by rw [endF, endF, if_neg (by omega)]
  | f + 1, g + 1, p, h1, h2 => by
    rw [endF, endF]
    split
    · rename_i h
      have := lkN_pos s p h.1
      exact endF_fuel K s f g _ (by omega) (by omega)
    · rfl
def endL (K : Int → Bool) (s : ByteArray) (p : Nat) : Nat := endF K s s.size p
theorem endL_step (K : Int → Bool) (s : ByteArray) (p : Nat) (h : p < s.size) (hk : K (lkR s p) = true) : endL K s p = endL K s (p + lkN s p) := by
  unfold endL
  obtain ⟨f, hf⟩ : ∃ f, s.size = f + 1 := ⟨s.size - 1, by omega⟩
  have hn := lkN_pos s p h
  rw [endF_fuel K s s.size (f + 1) p (by omega) (by omega), endF, if_pos ⟨h, hk⟩]
  exact endF_fuel K s f s.size _ (by omega) (by omega)
theorem endL_stop (K : Int → Bool) (s : ByteArray) (p : Nat) (h : ¬ (p < s.size ∧ K (lkR s p) = true)) : endL K s p = p := by
  unfold endL
  cases hs : s.size with
  | zero => rfl
  | succ f => rw [endF, if_neg h]
/-- Where a reader of lexis is. -/
def posL (w : World) (rb : Nat) : Nat := match w.cell? ⟨rb, 1, none⟩ with
  | some (.int _ n) => n.toNat
  | _ => 0
theorem LAt.pos {w : World} {rb : Nat} {s : ByteArray} {p : Nat} (h : LAt w rb s p) : posL w rb = p := by
  unfold posL
  rw [h.c1]
  simp
theorem lk_end (K : Int → Bool) (hK : K (-1) = false) (s : ByteArray) (p : Nat) (h : K (lkR s p) = true) : p < s.size := by
  by_cases hp : p < s.size
  · exact hp
  · rw [show lkR s p = -1 by unfold lkR; rw [if_neg hp], hK] at h
    cases h
theorem clone_lx (s : ByteArray) (w : World) (hs : s.size ≤ 281474976710656) : Calls Tryz.prog 36 #[.string s] w fun e w' => e = .returned (.string s) ∧ Fr noB w w' := clone_any s w hs
set_option maxRecDepth 100000 in
set_option maxHeartbeats 2000000 in
theorem name_lx (rb : Nat) (s : ByteArray) (p : Nat) (w : World) (h : LAt w rb s p) (hT : Tabs w) (hrb : ∀ W, Fr (oneB rb) w W → Tabs W) (hp : p ≤ s.size) (hz : s.size ≤ 140737488355328) (hm : endL inI s p ≤ p + 64) :
    Calls Tryz.prog 80 #[.pointer (some ⟨rb, 0, none⟩)] w fun e w' => e = .returned (.tuple #[.string (s.extract p (endL inI s p)), .int .i64 0]) ∧ LAt w' rb s (endL inI s p) ∧ Fr (oneB rb) w w' := by
  have d1 := h.c1
  obtain ⟨E, hE⟩ : ∃ E, endL inI s p = E := ⟨_, rfl⟩
  rw [hE] at hm ⊢
  obtain ⟨N, hN⟩ : ∃ N, s.extract p E = N := ⟨_, rfl⟩
  have HCL := fun W => clone_lx N W (by rw [← hN]; simp; omega)
  rw [hN]
  have h64 : ¬ (64 : Int) < (E : Int) - (p : Int) := by omega
  have HH : Hid _ := h
  have HE0 : Hid _ := hE
  have HRB : Hid _ := hrb
  clear h hE hrb
  go_enter Tryz.func80, Tryz.ntmps80
  go_wp2_with fail
  refine wp_scope_goes (fun l a W => l = 0 ∧ ∃ (k : Nat) (x9 x10 : Value), a = { tmps := #[.pointer (some ⟨rb, 0, none⟩), undef, .string ⟨#[]⟩, .int .i64 0, .int .i64 (p : Int), .pointer (some ⟨rb, 0, none⟩), .pointer (some ⟨rb, 0, none⟩), .pointer (some ⟨rb, 1, none⟩), .int .i64 (p : Int), x9, x10, undef, undef, undef, undef, undef, undef, undef, undef, undef, undef, undef, undef, undef, undef, undef, undef, undef, undef], defers := [] } ∧ LAt W rb s k ∧ k ≤ s.size ∧ p ≤ k ∧ Hid (endL inI s k = E) ∧ Hid (Fr (oneB rb) w W)) (fun _ _ W => s.size - posL W rb) ?_ ?_
  · go_wp2_with fail
    go_step3
    obtain ⟨k, HKP⟩ : ∃ k, Hid (k = p) := ⟨p, rfl⟩
    have HE : Hid (endL inI s k = E) := by
      show endL inI s k = E
      rw [HKP.out]
      exact HE0.out
    have hks : k ≤ s.size := by rw [HKP.out]; exact hp
    have hL : LAt w rb s k := by rw [HKP.out]; exact HH.out
    have hTW : Tabs w := hT
    have HF : Hid (Fr (oneB rb) w w) := Fr.refl _ _
    have hpk : p ≤ k := Nat.le_of_eq HKP.out.symm
    cases hk : inI (lkR s k) with
    | true =>
      have hkl := lk_end inI rfl s k hk
      have hst := (endL_step inI s k hkl hk).symm.trans HE.out
      have hn := lkN_pos s k hkl
      have hle := lkN_le s k hks
      have HSK := lxskip 24 inI (fun _ _ => rfl) inName_lx rb s k w hL hTW hks hz
      rw [hk, show lkP inI s k = k + lkN s k by unfold lkP; rw [if_pos hk]] at HSK
      generalize lkN s k = M at *
      clear hk
      go_wp2_with (go_at_call 73; refine HSK.mono ?_; rintro e w1 ⟨rfl, hL1, hF1⟩)
      go_step3
      exact ⟨rfl, k + M, _, _, rfl, hL1, by omega, by omega, hst, HF.out.trans hF1⟩
    | false =>
      have hE : E = k := by rw [← HE.out]; exact endL_stop inI s k (fun e => by rw [hk] at e; cases e.2)
      subst hE
      have HSK := lxskip 24 inI (fun _ _ => rfl) inName_lx rb s E w hL hTW hks hz
      rw [hk, show lkP inI s E = E by unfold lkP; rw [if_neg (by rw [hk]; simp)]] at HSK
      clear hk
      go_wp2_with (go_at_call 73; refine HSK.mono ?_; rintro e w1 ⟨rfl, hL1, hF1⟩; have e0 := hL1.c0; have e1 := hL1.c1)
      go_region_with (go_at_call 36; refine (HCL _).mono ?_; rintro e w2 ⟨rfl, hF2⟩)
      all_goals
        refine lx_to { tmps := #[.pointer (some ⟨rb, 0, none⟩), undef, .string N, .int .i64 0, .int .i64 (p : Int), .pointer (some ⟨rb, 0, none⟩), .pointer (some ⟨rb, 0, none⟩), .pointer (some ⟨rb, 1, none⟩), .int .i64 (p : Int), .pointer (some ⟨rb, 0, none⟩), .bool false, .pointer (some ⟨rb, 0, none⟩), .pointer (some ⟨rb, 0, none⟩), .pointer (some ⟨rb, 1, none⟩), .int .i64 (E : Int), .int .i64 (p : Int), .int .i64 ((E : Int) - (p : Int)), .bool (decide ((64 : Int) < (E : Int) - (p : Int))), .pointer (some ⟨rb, 0, none⟩), .pointer (some ⟨rb, 0, none⟩), .pointer (some ⟨rb, 0, none⟩), .string s, .int .i64 (p : Int), .pointer (some ⟨rb, 0, none⟩), .pointer (some ⟨rb, 0, none⟩), .pointer (some ⟨rb, 1, none⟩), .int .i64 (E : Int), .string N, .string N], defers := [] } (by kernel_rfl) ?_
        go_wp2_with fail
        rw [jumpsTo_ret]
        go_ret2
        exact ⟨rfl, hL1.fr (Fr.trans (by first | exact ((Fr.refl noB w1).drewN _).drew | exact (Fr.refl noB w1).drew) hF2) id, (HF.out.trans hF1).trans (Fr.trans (by first | exact ((Fr.refl noB w1).drewN _).drew | exact (Fr.refl noB w1).drew) hF2).weak⟩
  · rintro l a W ⟨rfl, k, x9, x10, rfl, hL, hks, hpk, HE, HF⟩
    have hTW := HRB.out _ HF.out
    refine ⟨_, rfl, ?_⟩
    cases hk : inI (lkR s k) with
    | true =>
      have hkl := lk_end inI rfl s k hk
      have hst := (endL_step inI s k hkl hk).symm.trans HE.out
      have hn := lkN_pos s k hkl
      have hle := lkN_le s k hks
      have HSK := lxskip 24 inI (fun _ _ => rfl) inName_lx rb s k W hL hTW hks hz
      rw [hk, show lkP inI s k = k + lkN s k by unfold lkP; rw [if_pos hk]] at HSK
      generalize lkN s k = M at *
      clear hk
      go_wp2_with (go_at_call 73; refine HSK.mono ?_; rintro e w1 ⟨rfl, hL1, hF1⟩)
      go_step3
      exact ⟨⟨rfl, k + M, _, _, rfl, hL1, by omega, by omega, hst, HF.out.trans hF1⟩, by simp only [hL1.pos, hL.pos]; omega⟩
    | false =>
      have hE : E = k := by rw [← HE.out]; exact endL_stop inI s k (fun e => by rw [hk] at e; cases e.2)
      subst hE
      have HSK := lxskip 24 inI (fun _ _ => rfl) inName_lx rb s E W hL hTW hks hz
      rw [hk, show lkP inI s E = E by unfold lkP; rw [if_neg (by rw [hk]; simp)]] at HSK
      clear hk
      go_wp2_with (go_at_call 73; refine HSK.mono ?_; rintro e w1 ⟨rfl, hL1, hF1⟩; have e0 := hL1.c0; have e1 := hL1.c1)
      go_region_with (go_at_call 36; refine (HCL _).mono ?_; rintro e w2 ⟨rfl, hF2⟩)
      all_goals
        refine lx_to { tmps := #[.pointer (some ⟨rb, 0, none⟩), undef, .string N, .int .i64 0, .int .i64 (p : Int), .pointer (some ⟨rb, 0, none⟩), .pointer (some ⟨rb, 0, none⟩), .pointer (some ⟨rb, 1, none⟩), .int .i64 (p : Int), .pointer (some ⟨rb, 0, none⟩), .bool false, .pointer (some ⟨rb, 0, none⟩), .pointer (some ⟨rb, 0, none⟩), .pointer (some ⟨rb, 1, none⟩), .int .i64 (E : Int), .int .i64 (p : Int), .int .i64 ((E : Int) - (p : Int)), .bool (decide ((64 : Int) < (E : Int) - (p : Int))), .pointer (some ⟨rb, 0, none⟩), .pointer (some ⟨rb, 0, none⟩), .pointer (some ⟨rb, 0, none⟩), .string s, .int .i64 (p : Int), .pointer (some ⟨rb, 0, none⟩), .pointer (some ⟨rb, 0, none⟩), .pointer (some ⟨rb, 1, none⟩), .int .i64 (E : Int), .string N, .string N], defers := [] } (by kernel_rfl) ?_
        go_wp2_with fail
        rw [jumpsTo_ret]
        go_ret2
        exact ⟨rfl, hL1.fr (Fr.trans (by first | exact ((Fr.refl noB w1).drewN _).drew | exact (Fr.refl noB w1).drew) hF2) id, (HF.out.trans hF1).trans (Fr.trans (by first | exact ((Fr.refl noB w1).drewN _).drew | exact (Fr.refl noB w1).drew) hF2).weak⟩

#print axioms name_lx
end Go.Proofs.YtkohohjpnlhioaaGreatDoor
