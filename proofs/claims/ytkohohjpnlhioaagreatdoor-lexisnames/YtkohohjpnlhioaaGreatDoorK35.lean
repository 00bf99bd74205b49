/- The reader's tokens at two texts. -/
import Derived.Test.YtkohohjpnlhioaaGreatDoorLYd
import Derived.Test.YtkohohjpnlhioaaGreatDoorLPa
import Derived.Test.YtkohohjpnlhioaaGreatDoorK34
import Derived.Test.YtkohohjpnlhioaaGreatDoorK28
import Derived.Deep.Cut
namespace Go.Proofs.YtkohohjpnlhioaaGreatDoor
open Go.RowKit Go.Shelf
attribute [local go_sem] lx_store_float

/-- What the reader's tokens may change of what was there: the reader, and the row's variable. -/
def tkS (rb ob : Nat) (b : Nat) : Prop := b = rb ∨ b = ob
/-- The tables that the reader looks into. -/
structure LTabs (w : World) : Prop where
  t : Tabs w
  s : STab w
  x : XTab w
  p : PaTab w
/-- The reader under way: at p, with n tokens told, the variable x holding X. -/
structure TkS (w W : World) (rb ob : Nat) (s : ByteArray) (p n : Nat) (so : Option Addr) (sc : Nat) (xs : List Value) (X : Array Value) : Prop where
  l : LAt W rb s p
  o : OutAt W ob (w.heap.size + 1) n (.slice so n sc) xs
  x : W.heap[w.heap.size]? = some (.cells X 28 (0, 0))
  f : Fr (tkS rb ob) w W
section
variable {w W W' : World} {rb ob : Nat} {s : ByteArray} {p n q : Nat} {so : Option Addr} {sc : Nat} {xs : List Value} {X : Array Value}
theorem TkS.rd (h : TkS w W rb ob s p n so sc xs X) (hrb : rb < w.heap.size) (hne : ob ≠ rb) (hl : LAt W' rb s q) (hF : Fr (oneB rb) W W') : TkS w W' rb ob s q n so sc xs X :=
  ⟨hl, h.o.fr hF (fun e => hne e) (fun b hb _ e => by have e : b = rb := e; omega), hF.obj h.x (fun e => by have e : w.heap.size = rb := e; omega), h.f.trans (hF.mono fun b _ e => Or.inl e)⟩
theorem TkS.nb (h : TkS w W rb ob s p n so sc xs X) (hF : Fr noB W W') : TkS w W' rb ob s p n so sc xs X :=
  ⟨h.l.fr hF id, h.o.fr hF id (fun _ _ _ e => e), hF.obj h.x id, h.f.trans hF.weak⟩
theorem TkS.xs' (h : TkS w W rb ob s p n so sc xs X) (hrb : rb < w.heap.size) (hob : ob < w.heap.size) (hF : Fr (oneB w.heap.size) W W') {Y : Array Value} (hx : W'.heap[w.heap.size]? = some (.cells Y 28 (0, 0))) : TkS w W' rb ob s p n so sc xs Y :=
  ⟨h.l.fr hF (fun e => by have e : rb = w.heap.size := e; omega), h.o.fr hF (fun e => by have e : ob = w.heap.size := e; omega) (fun b hb _ e => by have e : b = w.heap.size := e; omega), hx, h.f.then hF (fun i e => Or.inr (by have e : i = w.heap.size := e; omega))⟩
theorem TkS.row (h : TkS w W rb ob s p n so sc xs X) (hrb : rb < w.heap.size) (hob : ob < w.heap.size) (Y : Array Value) : TkS w (W.setRow w.heap.size Y) rb ob s p n so sc xs Y :=
  h.xs' hrb hob ((Fr.refl (oneB w.heap.size) W).setRowX w.heap.size (Or.inl (show w.heap.size = w.heap.size from rfl)) Y) (setRow_heap _ _ _ _ _ _ h.x)
theorem TkS.set (h : TkS w W rb ob s p n so sc xs X) (hrb : rb < w.heap.size) (hob : ob < w.heap.size) (o : Nat) (u : Value) : TkS w (W.setCell ⟨w.heap.size, o, none⟩ u) rb ob s p n so sc xs (X.setIfInBounds o u) :=
  h.xs' hrb hob ((Fr.refl (oneB w.heap.size) W).setOne o u) (setOf o u h.x)
theorem TkS.yl (h : TkS w W rb ob s p n so sc xs X) (hrb : rb < w.heap.size) (hob : ob < w.heap.size) (hne : ob ≠ rb) {g cap : Nat} {ys : List Value} (hO : OutAt W' ob (w.heap.size + 1) (n + 1) (.slice (some ⟨g, 0, none⟩) (n + 1) cap) ys) (hF : Fr (outS ob (w.heap.size + 1)) W W') : TkS w W' rb ob s p (n + 1) (some ⟨g, 0, none⟩) cap ys X :=
  ⟨h.l.fr hF (fun e => by rcases e with e | e; exact hne e.symm; omega), hO, hF.obj h.x (fun e => by rcases e with e | e; omega; omega), h.f.then hF (fun i e => by rcases e with e | e; exact Or.inl (Or.inr e); exact Or.inr (by omega))⟩
end
theorem jumpsTo_goto (J : Nat → Act → World → Prop) (Q : Exit → Act → World → Prop) (l : Nat) (a : Act) (w : World) (h : J l a w) : jumpsTo J Q (.goto l) a w := h
def txa : ByteArray := ⟨#[49, 43, 91, 46, 65, 49, 93]⟩
theorem txa_r0 : lkR txa 0 = 49 ∧ lkN txa 0 = 1 := by decide +kernel
theorem txa_r1 : lkR txa 1 = 43 ∧ lkN txa 1 = 1 := by decide +kernel
theorem txa_r2 : lkR txa 2 = 91 ∧ lkN txa 2 = 1 := by decide +kernel
theorem txa_r3 : lkR txa 3 = 46 ∧ lkN txa 3 = 1 := by decide +kernel
theorem txa_r4 : lkR txa 4 = 65 ∧ lkN txa 4 = 1 := by decide +kernel
theorem txa_r5 : lkR txa 5 = 49 ∧ lkN txa 5 = 1 := by decide +kernel
theorem txa_r6 : lkR txa 6 = 93 ∧ lkN txa 6 = 1 := by decide +kernel
theorem txa_r7 : lkR txa 7 = -1 ∧ lkN txa 7 = 0 := by decide +kernel
def txb : ByteArray := ⟨#[120, 32, 63]⟩
theorem txb_r0 : lkR txb 0 = 120 ∧ lkN txb 0 = 1 := by decide +kernel
theorem txb_r1 : lkR txb 1 = 32 ∧ lkN txb 1 = 1 := by decide +kernel
theorem txb_r2 : lkR txb 2 = 63 ∧ lkN txb 2 = 1 := by decide +kernel
theorem txb_r3 : lkR txb 3 = -1 ∧ lkN txb 3 = 0 := by decide +kernel
theorem txa_e0 : endL dgI txa 0 = 1 := by decide +kernel
theorem txa_e3 : endL nbI txa 3 = 6 := by decide +kernel
theorem txa_s1 : lsg txa 1 21 = ⟨#[43]⟩ := by decide +kernel
theorem txb_e0 : endL inI txb 0 = 1 := by decide +kernel
theorem txb_s2 : lsg txb 2 21 = ⟨#[]⟩ := by decide +kernel
theorem txa_n : txa.extract 0 1 = pa_t 49 := by decide +kernel
theorem txb_n : txb.extract 0 1 = ⟨#[120]⟩ := by decide +kernel
theorem txa_q : rfA (txa.extract 3 6) = .ok ⟨⟨#[]⟩, ⟨#[]⟩, false, false, 0, 0, false, false, 0, 0, false, false⟩ := by kernel_rfl
set_option maxRecDepth 100000 in
theorem ska0 (rb : Nat) (W : World) (hL : LAt W rb txa 0) (hT : Tabs W) : Calls Tryz.prog 73 #[.pointer (some ⟨rb, 0, none⟩), .func (.func 74) #[] #[]] W fun e w' => e = .returned (.bool false) ∧ LAt w' rb txa 0 ∧ Fr (oneB rb) W w' := by
  have h := lxskip 74 spI (fun _ _ => rfl) space_lx rb txa 0 W hL hT (by decide) (by decide)
  rwa [show lkP spI txa 0 = 0 by decide +kernel, show spI (lkR txa 0) = false by decide +kernel] at h
theorem pka0 (rb : Nat) (W : World) (hL : LAt W rb txa 0) (hT : Tabs W) : Calls Tryz.prog 75 #[.pointer (some ⟨rb, 0, none⟩)] W fun e w' => e = .returned (.int .i32 (49)) ∧ Fr noB W w' := by
  have h := lxpeek rb txa 0 W hL hT (by decide)
  rwa [txa_r0.1] at h
set_option maxRecDepth 100000 in
theorem ska1 (rb : Nat) (W : World) (hL : LAt W rb txa 1) (hT : Tabs W) : Calls Tryz.prog 73 #[.pointer (some ⟨rb, 0, none⟩), .func (.func 74) #[] #[]] W fun e w' => e = .returned (.bool false) ∧ LAt w' rb txa 1 ∧ Fr (oneB rb) W w' := by
  have h := lxskip 74 spI (fun _ _ => rfl) space_lx rb txa 1 W hL hT (by decide) (by decide)
  rwa [show lkP spI txa 1 = 1 by decide +kernel, show spI (lkR txa 1) = false by decide +kernel] at h
theorem pka1 (rb : Nat) (W : World) (hL : LAt W rb txa 1) (hT : Tabs W) : Calls Tryz.prog 75 #[.pointer (some ⟨rb, 0, none⟩)] W fun e w' => e = .returned (.int .i32 (43)) ∧ Fr noB W w' := by
  have h := lxpeek rb txa 1 W hL hT (by decide)
  rwa [txa_r1.1] at h
set_option maxRecDepth 100000 in
theorem ska2 (rb : Nat) (W : World) (hL : LAt W rb txa 2) (hT : Tabs W) : Calls Tryz.prog 73 #[.pointer (some ⟨rb, 0, none⟩), .func (.func 74) #[] #[]] W fun e w' => e = .returned (.bool false) ∧ LAt w' rb txa 2 ∧ Fr (oneB rb) W w' := by
  have h := lxskip 74 spI (fun _ _ => rfl) space_lx rb txa 2 W hL hT (by decide) (by decide)
  rwa [show lkP spI txa 2 = 2 by decide +kernel, show spI (lkR txa 2) = false by decide +kernel] at h
theorem pka2 (rb : Nat) (W : World) (hL : LAt W rb txa 2) (hT : Tabs W) : Calls Tryz.prog 75 #[.pointer (some ⟨rb, 0, none⟩)] W fun e w' => e = .returned (.int .i32 (91)) ∧ Fr noB W w' := by
  have h := lxpeek rb txa 2 W hL hT (by decide)
  rwa [txa_r2.1] at h
set_option maxRecDepth 100000 in
theorem ska7 (rb : Nat) (W : World) (hL : LAt W rb txa 7) (hT : Tabs W) : Calls Tryz.prog 73 #[.pointer (some ⟨rb, 0, none⟩), .func (.func 74) #[] #[]] W fun e w' => e = .returned (.bool false) ∧ LAt w' rb txa 7 ∧ Fr (oneB rb) W w' := by
  have h := lxskip 74 spI (fun _ _ => rfl) space_lx rb txa 7 W hL hT (by decide) (by decide)
  rwa [show lkP spI txa 7 = 7 by decide +kernel, show spI (lkR txa 7) = false by decide +kernel] at h
theorem pka7 (rb : Nat) (W : World) (hL : LAt W rb txa 7) (hT : Tabs W) : Calls Tryz.prog 75 #[.pointer (some ⟨rb, 0, none⟩)] W fun e w' => e = .returned (.int .i32 (-1)) ∧ Fr noB W w' := by
  have h := lxpeek rb txa 7 W hL hT (by decide)
  rwa [txa_r7.1] at h
set_option maxRecDepth 100000 in
theorem skb0 (rb : Nat) (W : World) (hL : LAt W rb txb 0) (hT : Tabs W) : Calls Tryz.prog 73 #[.pointer (some ⟨rb, 0, none⟩), .func (.func 74) #[] #[]] W fun e w' => e = .returned (.bool false) ∧ LAt w' rb txb 0 ∧ Fr (oneB rb) W w' := by
  have h := lxskip 74 spI (fun _ _ => rfl) space_lx rb txb 0 W hL hT (by decide) (by decide)
  rwa [show lkP spI txb 0 = 0 by decide +kernel, show spI (lkR txb 0) = false by decide +kernel] at h
theorem pkb0 (rb : Nat) (W : World) (hL : LAt W rb txb 0) (hT : Tabs W) : Calls Tryz.prog 75 #[.pointer (some ⟨rb, 0, none⟩)] W fun e w' => e = .returned (.int .i32 (120)) ∧ Fr noB W w' := by
  have h := lxpeek rb txb 0 W hL hT (by decide)
  rwa [txb_r0.1] at h
set_option maxRecDepth 100000 in
theorem skb1 (rb : Nat) (W : World) (hL : LAt W rb txb 1) (hT : Tabs W) : Calls Tryz.prog 73 #[.pointer (some ⟨rb, 0, none⟩), .func (.func 74) #[] #[]] W fun e w' => e = .returned (.bool true) ∧ LAt w' rb txb 2 ∧ Fr (oneB rb) W w' := by
  have h := lxskip 74 spI (fun _ _ => rfl) space_lx rb txb 1 W hL hT (by decide) (by decide)
  rwa [show lkP spI txb 1 = 2 by decide +kernel, show spI (lkR txb 1) = true by decide +kernel] at h
theorem pkb1 (rb : Nat) (W : World) (hL : LAt W rb txb 1) (hT : Tabs W) : Calls Tryz.prog 75 #[.pointer (some ⟨rb, 0, none⟩)] W fun e w' => e = .returned (.int .i32 (32)) ∧ Fr noB W w' := by
  have h := lxpeek rb txb 1 W hL hT (by decide)
  rwa [txb_r1.1] at h
set_option maxRecDepth 100000 in
theorem skb2 (rb : Nat) (W : World) (hL : LAt W rb txb 2) (hT : Tabs W) : Calls Tryz.prog 73 #[.pointer (some ⟨rb, 0, none⟩), .func (.func 74) #[] #[]] W fun e w' => e = .returned (.bool false) ∧ LAt w' rb txb 2 ∧ Fr (oneB rb) W w' := by
  have h := lxskip 74 spI (fun _ _ => rfl) space_lx rb txb 2 W hL hT (by decide) (by decide)
  rwa [show lkP spI txb 2 = 2 by decide +kernel, show spI (lkR txb 2) = false by decide +kernel] at h
theorem pkb2 (rb : Nat) (W : World) (hL : LAt W rb txb 2) (hT : Tabs W) : Calls Tryz.prog 75 #[.pointer (some ⟨rb, 0, none⟩)] W fun e w' => e = .returned (.int .i32 (63)) ∧ Fr noB W w' := by
  have h := lxpeek rb txb 2 W hL hT (by decide)
  rwa [txb_r2.1] at h
theorem nma (rb : Nat) (W : World) (hL : LAt W rb txa 0) (hT : LTabs W) (hrb : ∀ V, Fr (oneB rb) W V → LTabs V) : Calls Tryz.prog 77 #[.pointer (some ⟨rb, 0, none⟩)] W fun e w' => e = .returned (.tuple #[.float .f64 4607182418800017408, .int .i64 0]) ∧ LAt w' rb txa 1 ∧ Fr (oneB rb) W w' := by
  have h := number_lx rb txa 0 4607182418800017408 W hL hT.t (fun V hV => (hrb V hV).t) (by decide) (by decide) (by rw [txa_e0]; decide +kernel) (by rw [txa_e0]; decide +kernel) (by rw [txa_e0]; decide +kernel) (fun V hV => by
    rw [txa_e0, txa_n]
    exact pa_nparse1 V (hrb V hV).x (hrb V hV).p)
  rwa [txa_e0] at h
theorem sga (rb : Nat) (W : World) (hL : LAt W rb txa 1) (hT : LTabs W) : Calls Tryz.prog 76 #[.pointer (some ⟨rb, 0, none⟩)] W fun e w' => e = .returned (.tuple #[.string ⟨#[43]⟩, .int .i64 0]) ∧ LAt w' rb txa 2 ∧ Fr (oneB rb) W w' := by
  have h := sign_lx rb txa 1 W hL hT.s (by decide) (by decide) (by rw [txa_s1]; decide)
  rwa [txa_s1, if_neg (by decide)] at h
theorem bka (rb : Nat) (W : World) (hL : LAt W rb txa 2) (hT : LTabs W) (hrb : ∀ V, Fr (oneB rb) W V → LTabs V) : Calls Tryz.prog 79 #[.pointer (some ⟨rb, 0, none⟩)] W fun e w' => e = .returned (.tuple #[(.agg #[.string ⟨#[]⟩, .string ⟨#[]⟩, .bool false, .bool false, .int .i64 0, .int .i64 0, .bool false, .bool false, .int .i64 0, .int .i64 0, .bool false, .bool false]), .int .i64 0]) ∧ LAt w' rb txa 7 ∧ Fr (oneB rb) W w' :=
  bracket_lx rb txa 2 3 6 7 91 ⟨#[]⟩ ⟨#[]⟩ false false 0 0 false false 0 0 false false W hL hT.t (fun V hV => (hrb V hV).t) (by decide) (by decide) txa_r2.1 (by rw [txa_r2.2]) txa_e3 txa_r6.1 (by rw [txa_r6.2]) rfl (by decide) (by decide) (fun V hV => parse_ok (txa.extract 3 6) _ V (by decide) txa_q)
theorem nmb (rb : Nat) (W : World) (hL : LAt W rb txb 0) (hT : LTabs W) (hrb : ∀ V, Fr (oneB rb) W V → LTabs V) : Calls Tryz.prog 80 #[.pointer (some ⟨rb, 0, none⟩)] W fun e w' => e = .returned (.tuple #[.string ⟨#[120]⟩, .int .i64 0]) ∧ LAt w' rb txb 1 ∧ Fr (oneB rb) W w' := by
  have h := name_lx rb txb 0 W hL hT.t (fun V hV => (hrb V hV).t) (by decide) (by decide) (by rw [txb_e0]; decide)
  rwa [txb_e0, txb_n] at h
theorem sgb (rb : Nat) (W : World) (hL : LAt W rb txb 2) (hT : LTabs W) : Calls Tryz.prog 76 #[.pointer (some ⟨rb, 0, none⟩)] W fun e w' => e = .returned (.tuple #[.string ⟨#[]⟩, .int .i64 120]) ∧ LAt w' rb txb 2 ∧ Fr (oneB rb) W w' := by
  have h := sign_lx rb txb 2 W hL hT.s (by decide) (by decide) (by rw [txb_s2]; decide)
  rwa [txb_s2, if_pos (show (⟨#[]⟩ : ByteArray).size = 0 from rfl)] at h
#print axioms bka
#print axioms nma
#print axioms nmb
#print axioms sgb
end Go.Proofs.YtkohohjpnlhioaaGreatDoor
/- The reader's tokens at two texts, walked jump by jump. -/
namespace Go.Proofs.YtkohohjpnlhioaaGreatDoor
open Go.RowKit Go.Shelf
attribute [local go_sem] lx_store_float

set_option maxRecDepth 100000 in
set_option maxHeartbeats 4000000 in
theorem tokens_a (rb ob : Nat) (w : World) (h : LAt w rb txa 0) (ho : w.heap[ob]? = some (.cells #[.slice none 0 0] 49 (0, 0))) (hne : ob ≠ rb) (HT : Hid (∀ W, Fr (tkS rb ob) w W → LTabs W)) :
    Calls Tryz.prog 44 #[.pointer (some ⟨rb, 0, none⟩), .func (.func 45) #[] #[.pointer (some ⟨ob, 0, none⟩)]] w fun e w' => e = .returned (.tuple #[.int .i64 0, .int .i64 0]) ∧ (∃ g cap, w'.cell? ⟨ob, 0, none⟩ = some (.slice (some ⟨g, 0, none⟩) 3 cap) ∧ w'.cell? ⟨g, 34, none⟩ = some (.int .i64 3)) ∧ Fr (tkS rb ob) w w' := by
  have hrb := h.lt
  have hob := lt_of_block ho
  have HRB : Hid (∀ W, Fr (tkS rb ob) w W → ∀ V, Fr (oneB rb) W V → LTabs V) := fun W hW V hV => HT.out V (hW.trans (hV.mono fun b _ e => Or.inl e))
  go_enter Tryz.func44, Tryz.ntmps44
  go_wp2_with fail
  refine wp_scope_jumps_n 12 ?_
  have st0 : TkS w (w.alloc (.cells #[.int .i64 0, .float .f64 0, .string ⟨#[]⟩, .string ⟨#[]⟩, .string ⟨#[]⟩, .bool false, .bool false, .int .i64 0, .int .i64 0, .bool false, .bool false, .int .i64 0, .int .i64 0, .bool false, .bool false, .int .i64 0, .int .i64 0] 28 (0, 0))) rb ob txa 0 0 none 0 [] #[.int .i64 0, .float .f64 0, .string ⟨#[]⟩, .string ⟨#[]⟩, .string ⟨#[]⟩, .bool false, .bool false, .int .i64 0, .int .i64 0, .bool false, .bool false, .int .i64 0, .int .i64 0, .bool false, .bool false, .int .i64 0, .int .i64 0] := by
    have hF := (Fr.refl noB w).alloc (.cells #[.int .i64 0, .float .f64 0, .string ⟨#[]⟩, .string ⟨#[]⟩, .string ⟨#[]⟩, .bool false, .bool false, .int .i64 0, .int .i64 0, .bool false, .bool false, .int .i64 0, .int .i64 0, .bool false, .bool false, .int .i64 0, .int .i64 0] 28 (0, 0))
    exact ⟨h.fr hF id, ⟨hF.obj ho id, ⟨rfl, Or.inl ⟨rfl, rfl⟩⟩, by omega, by simp⟩, heap_alloc_new w _, hF.weak⟩
  have HS : Hid _ := st0
  clear st0 h ho
  go_wp2_with fail
  generalize w.alloc (.cells #[.int .i64 0, .float .f64 0, .string ⟨#[]⟩, .string ⟨#[]⟩, .string ⟨#[]⟩, .bool false, .bool false, .int .i64 0, .int .i64 0, .bool false, .bool false, .int .i64 0, .int .i64 0, .bool false, .bool false, .int .i64 0, .int .i64 0] 28 (0, 0)) = W0 at HS ⊢
  go_step3
  go_wp2_with (first
    | (go_at_call 73; refine (ska0 rb _ HS.out.l (HT.out _ HS.out.f).t).mono ?_; rintro e w1 ⟨rfl, hL1, hF1⟩
       have HS1 : Hid _ := HS.out.rd hrb hne hL1 hF1
       have d1 := HS1.out.l.c1
       clear hL1 hF1)
    | (refine wpList_store_row rfl 28 (.tmp 6) (.tmp 14) rfl w.heap.size #[.int .i64 0, .float .f64 0, .string ⟨#[]⟩, .string ⟨#[]⟩, .string ⟨#[]⟩, .bool false, .bool false, .int .i64 0, .int .i64 0, .bool false, .bool false, .int .i64 0, .int .i64 0, .bool false, .bool false, .int .i64 0, .int .i64 0] rfl rfl 28 #[.int .i64 0, .float .f64 0, .string ⟨#[]⟩, .string ⟨#[]⟩, .string ⟨#[]⟩, .bool false, .bool false, .int .i64 0, .int .i64 0, .bool false, .bool false, .int .i64 0, .int .i64 0, .bool false, .bool false, .int .i64 0, .int .i64 0] HS1.out.x info_lx rfl (lx_one _ _ _ _ _ _ _ _ _ _ _ _ _ _ _ _ _) ?_
       have st2 := HS1.out.row hrb hob #[.int .i64 0, .float .f64 0, .string ⟨#[]⟩, .string ⟨#[]⟩, .string ⟨#[]⟩, .bool false, .bool false, .int .i64 0, .int .i64 0, .bool false, .bool false, .int .i64 0, .int .i64 0, .bool false, .bool false, .int .i64 0, .int .i64 0]
       generalize w1.setRow w.heap.size #[.int .i64 0, .float .f64 0, .string ⟨#[]⟩, .string ⟨#[]⟩, .string ⟨#[]⟩, .bool false, .bool false, .int .i64 0, .int .i64 0, .bool false, .bool false, .int .i64 0, .int .i64 0, .bool false, .bool false, .int .i64 0, .int .i64 0] = W2 at st2 ⊢
       have HS2 : Hid _ := st2
       clear st2 d1)
    | (go_at_call 75; refine (pka0 rb _ HS2.out.l (HT.out _ HS2.out.f).t).mono ?_; rintro e w3 ⟨rfl, hF3⟩
       have HS3 : Hid _ := HS2.out.nb hF3
       have k0 := cellOf (o := 0) HS3.out.x rfl
       have f0 := freeOf 0 HS3.out.x
       clear hF3)
    | (go_at_call 46; refine (isDigit_lx (49) _).mono ?_; rw [show dgI (49) = true from rfl]; rintro e w4 ⟨rfl, rfl⟩)
    | (go_at_call 23; refine (beginsName_lx (49) _).mono ?_; rw [show bgI (49) = false from rfl]; rintro e w4 ⟨rfl, rfl⟩))
  go_step3
  refine ⟨_, rfl, ?_⟩
  go_wp2_with (first
    | (go_at_call 77
       have HS4 : Hid _ := HS3.out.set hrb hob 0 (.int .i64 1)
       refine (nma rb _ HS4.out.l (HT.out _ HS4.out.f) (HRB.out _ HS4.out.f)).mono ?_; rintro e w5 ⟨rfl, hL5, hF5⟩
       have HS5 : Hid (TkS w w5 rb ob txa 1 0 _ _ _ #[.int .i64 1, .float .f64 0, .string ⟨#[]⟩, .string ⟨#[]⟩, .string ⟨#[]⟩, .bool false, .bool false, .int .i64 0, .int .i64 0, .bool false, .bool false, .int .i64 0, .int .i64 0, .bool false, .bool false, .int .i64 0, .int .i64 0]) := HS4.out.rd hrb hne hL5 hF5
       have k1 := cellOf (o := 1) HS5.out.x rfl; have f1 := freeOf 1 HS5.out.x
       clear hL5 hF5 k0 f0 HS4 HS3))
  go_step3
  refine ⟨_, rfl, ?_⟩
  have HS6 : Hid (TkS w (w5.setCell ⟨w.heap.size, 1, none⟩ (.float .f64 4607182418800017408)) rb ob txa 1 0 _ _ _ #[.int .i64 1, .float .f64 4607182418800017408, .string ⟨#[]⟩, .string ⟨#[]⟩, .string ⟨#[]⟩, .bool false, .bool false, .int .i64 0, .int .i64 0, .bool false, .bool false, .int .i64 0, .int .i64 0, .bool false, .bool false, .int .i64 0, .int .i64 0]) := HS5.out.set hrb hob 1 (.float .f64 4607182418800017408)
  go_wp2_with (first
    | (refine wpList_load_row rfl 28 (.tmp 6) rfl w.heap.size rfl 28 #[.int .i64 1, .float .f64 4607182418800017408, .string ⟨#[]⟩, .string ⟨#[]⟩, .string ⟨#[]⟩, .bool false, .bool false, .int .i64 0, .int .i64 0, .bool false, .bool false, .int .i64 0, .int .i64 0, .bool false, .bool false, .int .i64 0, .int .i64 0] (0, 0) _ HS6.out.x Tryz.underlying28 rfl info_lx ?_)
    | (go_at_call 45; refine (yield_lx (1) (4607182418800017408) (⟨#[]⟩) (⟨#[]⟩) (⟨#[]⟩) (false) (false) (0) (0) (false) (false) (0) (0) (false) (false) (0) (0) ob (w.heap.size + 1) 0 _ _ _ _ HS6.out.o (by omega)).mono ?_; rintro e w7 ⟨rfl, ⟨g0, cap0, hO7⟩, hF7⟩
       have HS7 : Hid _ := HS6.out.yl hrb hob hne hO7 hF7
       clear hO7 hF7))
  go_step3
  refine ⟨_, rfl, ?_⟩
  have HS := HS7
  clear HS6 HS7
  go_wp2_with (first
    | (go_at_call 73; refine (ska1 rb _ HS.out.l (HT.out _ HS.out.f).t).mono ?_; rintro e w1 ⟨rfl, hL1, hF1⟩
       have HS1 : Hid _ := HS.out.rd hrb hne hL1 hF1
       have d1 := HS1.out.l.c1
       clear hL1 hF1)
    | (refine wpList_store_row rfl 28 (.tmp 6) (.tmp 14) rfl w.heap.size #[.int .i64 0, .float .f64 0, .string ⟨#[]⟩, .string ⟨#[]⟩, .string ⟨#[]⟩, .bool false, .bool false, .int .i64 0, .int .i64 0, .bool false, .bool false, .int .i64 0, .int .i64 0, .bool false, .bool false, .int .i64 0, .int .i64 1] rfl rfl 28 #[.int .i64 1, .float .f64 4607182418800017408, .string ⟨#[]⟩, .string ⟨#[]⟩, .string ⟨#[]⟩, .bool false, .bool false, .int .i64 0, .int .i64 0, .bool false, .bool false, .int .i64 0, .int .i64 0, .bool false, .bool false, .int .i64 0, .int .i64 0] HS1.out.x info_lx rfl (lx_one _ _ _ _ _ _ _ _ _ _ _ _ _ _ _ _ _) ?_
       have st2 := HS1.out.row hrb hob #[.int .i64 0, .float .f64 0, .string ⟨#[]⟩, .string ⟨#[]⟩, .string ⟨#[]⟩, .bool false, .bool false, .int .i64 0, .int .i64 0, .bool false, .bool false, .int .i64 0, .int .i64 0, .bool false, .bool false, .int .i64 0, .int .i64 1]
       generalize w1.setRow w.heap.size #[.int .i64 0, .float .f64 0, .string ⟨#[]⟩, .string ⟨#[]⟩, .string ⟨#[]⟩, .bool false, .bool false, .int .i64 0, .int .i64 0, .bool false, .bool false, .int .i64 0, .int .i64 0, .bool false, .bool false, .int .i64 0, .int .i64 1] = W2 at st2 ⊢
       have HS2 : Hid _ := st2
       clear st2 d1)
    | (go_at_call 75; refine (pka1 rb _ HS2.out.l (HT.out _ HS2.out.f).t).mono ?_; rintro e w3 ⟨rfl, hF3⟩
       have HS3 : Hid _ := HS2.out.nb hF3
       have k0 := cellOf (o := 0) HS3.out.x rfl
       have f0 := freeOf 0 HS3.out.x
       clear hF3)
    | (go_at_call 46; refine (isDigit_lx (43) _).mono ?_; rw [show dgI (43) = false from rfl]; rintro e w4 ⟨rfl, rfl⟩)
    | (go_at_call 23; refine (beginsName_lx (43) _).mono ?_; rw [show bgI (43) = false from rfl]; rintro e w4 ⟨rfl, rfl⟩)
    | (go_at_call 76
       have HS4 : Hid _ := HS3.out.set hrb hob 0 (.int .i64 6)
       refine (sga rb _ HS4.out.l (HT.out _ HS4.out.f)).mono ?_; rintro e w5 ⟨rfl, hL5, hF5⟩
       have HS5 : Hid (TkS w w5 rb ob txa 2 1 _ _ _ #[.int .i64 6, .float .f64 0, .string ⟨#[]⟩, .string ⟨#[]⟩, .string ⟨#[]⟩, .bool false, .bool false, .int .i64 0, .int .i64 0, .bool false, .bool false, .int .i64 0, .int .i64 0, .bool false, .bool false, .int .i64 0, .int .i64 1]) := HS4.out.rd hrb hne hL5 hF5
       have k2 := cellOf (o := 2) HS5.out.x rfl; have f2 := freeOf 2 HS5.out.x
       clear hL5 hF5 k0 f0 HS4 HS3))
  go_step3
  refine ⟨_, rfl, ?_⟩
  have HS6 : Hid (TkS w (w5.setCell ⟨w.heap.size, 2, none⟩ (.string ⟨#[43]⟩)) rb ob txa 2 1 _ _ _ #[.int .i64 6, .float .f64 0, .string ⟨#[43]⟩, .string ⟨#[]⟩, .string ⟨#[]⟩, .bool false, .bool false, .int .i64 0, .int .i64 0, .bool false, .bool false, .int .i64 0, .int .i64 0, .bool false, .bool false, .int .i64 0, .int .i64 1]) := HS5.out.set hrb hob 2 (.string ⟨#[43]⟩)
  go_wp2_with (first
    | (refine wpList_load_row rfl 28 (.tmp 6) rfl w.heap.size rfl 28 #[.int .i64 6, .float .f64 0, .string ⟨#[43]⟩, .string ⟨#[]⟩, .string ⟨#[]⟩, .bool false, .bool false, .int .i64 0, .int .i64 0, .bool false, .bool false, .int .i64 0, .int .i64 0, .bool false, .bool false, .int .i64 0, .int .i64 1] (0, 0) _ HS6.out.x Tryz.underlying28 rfl info_lx ?_)
    | (go_at_call 45; refine (yield_lx (6) (0) (⟨#[43]⟩) (⟨#[]⟩) (⟨#[]⟩) (false) (false) (0) (0) (false) (false) (0) (0) (false) (false) (0) (1) ob (w.heap.size + 1) 1 _ _ _ _ HS6.out.o (by omega)).mono ?_; rintro e w7 ⟨rfl, ⟨g1, cap1, hO7⟩, hF7⟩
       have HS7 : Hid _ := HS6.out.yl hrb hob hne hO7 hF7
       clear hO7 hF7))
  go_step3
  refine ⟨_, rfl, ?_⟩
  have HS := HS7
  clear HS6 HS7
  go_wp2_with (first
    | (go_at_call 73; refine (ska2 rb _ HS.out.l (HT.out _ HS.out.f).t).mono ?_; rintro e w1 ⟨rfl, hL1, hF1⟩
       have HS1 : Hid _ := HS.out.rd hrb hne hL1 hF1
       have d1 := HS1.out.l.c1
       clear hL1 hF1)
    | (refine wpList_store_row rfl 28 (.tmp 6) (.tmp 14) rfl w.heap.size #[.int .i64 0, .float .f64 0, .string ⟨#[]⟩, .string ⟨#[]⟩, .string ⟨#[]⟩, .bool false, .bool false, .int .i64 0, .int .i64 0, .bool false, .bool false, .int .i64 0, .int .i64 0, .bool false, .bool false, .int .i64 0, .int .i64 2] rfl rfl 28 #[.int .i64 6, .float .f64 0, .string ⟨#[43]⟩, .string ⟨#[]⟩, .string ⟨#[]⟩, .bool false, .bool false, .int .i64 0, .int .i64 0, .bool false, .bool false, .int .i64 0, .int .i64 0, .bool false, .bool false, .int .i64 0, .int .i64 1] HS1.out.x info_lx rfl (lx_one _ _ _ _ _ _ _ _ _ _ _ _ _ _ _ _ _) ?_
       have st2 := HS1.out.row hrb hob #[.int .i64 0, .float .f64 0, .string ⟨#[]⟩, .string ⟨#[]⟩, .string ⟨#[]⟩, .bool false, .bool false, .int .i64 0, .int .i64 0, .bool false, .bool false, .int .i64 0, .int .i64 0, .bool false, .bool false, .int .i64 0, .int .i64 2]
       generalize w1.setRow w.heap.size #[.int .i64 0, .float .f64 0, .string ⟨#[]⟩, .string ⟨#[]⟩, .string ⟨#[]⟩, .bool false, .bool false, .int .i64 0, .int .i64 0, .bool false, .bool false, .int .i64 0, .int .i64 0, .bool false, .bool false, .int .i64 0, .int .i64 2] = W2 at st2 ⊢
       have HS2 : Hid _ := st2
       clear st2 d1)
    | (go_at_call 75; refine (pka2 rb _ HS2.out.l (HT.out _ HS2.out.f).t).mono ?_; rintro e w3 ⟨rfl, hF3⟩
       have HS3 : Hid _ := HS2.out.nb hF3
       have k0 := cellOf (o := 0) HS3.out.x rfl
       have f0 := freeOf 0 HS3.out.x
       clear hF3)
    | (go_at_call 46; refine (isDigit_lx (91) _).mono ?_; rw [show dgI (91) = false from rfl]; rintro e w4 ⟨rfl, rfl⟩)
    | (go_at_call 23; refine (beginsName_lx (91) _).mono ?_; rw [show bgI (91) = false from rfl]; rintro e w4 ⟨rfl, rfl⟩))
  go_step3
  refine ⟨_, rfl, ?_⟩
  go_wp2_with (first
    | (go_at_call 79
       have HS4 : Hid _ := HS3.out.set hrb hob 0 (.int .i64 3)
       refine (bka rb _ HS4.out.l (HT.out _ HS4.out.f) (HRB.out _ HS4.out.f)).mono ?_; rintro e w5 ⟨rfl, hL5, hF5⟩
       have HS5 : Hid (TkS w w5 rb ob txa 7 2 _ _ _ #[.int .i64 3, .float .f64 0, .string ⟨#[]⟩, .string ⟨#[]⟩, .string ⟨#[]⟩, .bool false, .bool false, .int .i64 0, .int .i64 0, .bool false, .bool false, .int .i64 0, .int .i64 0, .bool false, .bool false, .int .i64 0, .int .i64 2]) := HS4.out.rd hrb hne hL5 hF5
       skip
       clear hL5 hF5 k0 f0 HS4 HS3)
    | (refine wpList_store_r3 rfl (.tmp 62) (.tmp 60) rfl w.heap.size (.int .i64 3) (.float .f64 0) (.string ⟨#[]⟩) (.string ⟨#[]⟩) (.string ⟨#[]⟩) (.bool false) (.bool false) (.int .i64 0) (.int .i64 0) (.bool false) (.bool false) (.int .i64 0) (.int .i64 0) (.bool false) (.bool false) (.int .i64 0) (.int .i64 2) ⟨#[]⟩ ⟨#[]⟩ false false 0 0 false false 0 0 false false rfl rfl HS5.out.x ?_
       intro W6 hx6 hF6
       have HS6 : Hid (TkS w W6 rb ob txa 7 2 _ _ _ #[.int .i64 3, .float .f64 0, .string ⟨#[]⟩, .string ⟨#[]⟩, .string ⟨#[]⟩, .bool false, .bool false, .int .i64 0, .int .i64 0, .bool false, .bool false, .int .i64 0, .int .i64 0, .bool false, .bool false, .int .i64 0, .int .i64 2]) := HS5.out.xs' hrb hob hF6 hx6
       clear hx6 hF6))
  go_step3
  refine ⟨_, rfl, ?_⟩
  skip
  go_wp2_with (first
    | (refine wpList_load_row rfl 28 (.tmp 6) rfl w.heap.size rfl 28 #[.int .i64 3, .float .f64 0, .string ⟨#[]⟩, .string ⟨#[]⟩, .string ⟨#[]⟩, .bool false, .bool false, .int .i64 0, .int .i64 0, .bool false, .bool false, .int .i64 0, .int .i64 0, .bool false, .bool false, .int .i64 0, .int .i64 2] (0, 0) _ HS6.out.x Tryz.underlying28 rfl info_lx ?_)
    | (go_at_call 45; refine (yield_lx (3) (0) (⟨#[]⟩) (⟨#[]⟩) (⟨#[]⟩) (false) (false) (0) (0) (false) (false) (0) (0) (false) (false) (0) (2) ob (w.heap.size + 1) 2 _ _ _ _ HS6.out.o (by omega)).mono ?_; rintro e w7 ⟨rfl, ⟨g2, cap2, hO7⟩, hF7⟩
       have HS7 : Hid _ := HS6.out.yl hrb hob hne hO7 hF7
       clear hO7 hF7))
  go_step3
  refine ⟨_, rfl, ?_⟩
  have HS := HS7
  clear HS6 HS7
  go_wp2_with (first
    | (go_at_call 73; refine (ska7 rb _ HS.out.l (HT.out _ HS.out.f).t).mono ?_; rintro e w1 ⟨rfl, hL1, hF1⟩
       have HS1 : Hid _ := HS.out.rd hrb hne hL1 hF1
       have d1 := HS1.out.l.c1
       clear hL1 hF1)
    | (refine wpList_store_row rfl 28 (.tmp 6) (.tmp 14) rfl w.heap.size #[.int .i64 0, .float .f64 0, .string ⟨#[]⟩, .string ⟨#[]⟩, .string ⟨#[]⟩, .bool false, .bool false, .int .i64 0, .int .i64 0, .bool false, .bool false, .int .i64 0, .int .i64 0, .bool false, .bool false, .int .i64 0, .int .i64 7] rfl rfl 28 #[.int .i64 3, .float .f64 0, .string ⟨#[]⟩, .string ⟨#[]⟩, .string ⟨#[]⟩, .bool false, .bool false, .int .i64 0, .int .i64 0, .bool false, .bool false, .int .i64 0, .int .i64 0, .bool false, .bool false, .int .i64 0, .int .i64 2] HS1.out.x info_lx rfl (lx_one _ _ _ _ _ _ _ _ _ _ _ _ _ _ _ _ _) ?_
       have st2 := HS1.out.row hrb hob #[.int .i64 0, .float .f64 0, .string ⟨#[]⟩, .string ⟨#[]⟩, .string ⟨#[]⟩, .bool false, .bool false, .int .i64 0, .int .i64 0, .bool false, .bool false, .int .i64 0, .int .i64 0, .bool false, .bool false, .int .i64 0, .int .i64 7]
       generalize w1.setRow w.heap.size #[.int .i64 0, .float .f64 0, .string ⟨#[]⟩, .string ⟨#[]⟩, .string ⟨#[]⟩, .bool false, .bool false, .int .i64 0, .int .i64 0, .bool false, .bool false, .int .i64 0, .int .i64 0, .bool false, .bool false, .int .i64 0, .int .i64 7] = W2 at st2 ⊢
       have HS2 : Hid _ := st2
       clear st2 d1)
    | (go_at_call 75; refine (pka7 rb _ HS2.out.l (HT.out _ HS2.out.f).t).mono ?_; rintro e w3 ⟨rfl, hF3⟩
       have HS3 : Hid _ := HS2.out.nb hF3
       have k0 := cellOf (o := 0) HS3.out.x rfl
       have f0 := freeOf 0 HS3.out.x
       clear hF3))
  rw [jumpsTo_ret]
  go_ret2
  have hO := HS3.out.o
  refine ⟨rfl, ⟨_, _, cellOf (o := 0) hO.o rfl, (hO.r.cellAt 34 (by decide)).trans rfl⟩, HS3.out.f⟩
#print axioms tokens_a
set_option maxRecDepth 100000 in
set_option maxHeartbeats 4000000 in
theorem tokens_b (rb ob : Nat) (w : World) (h : LAt w rb txb 0) (ho : w.heap[ob]? = some (.cells #[.slice none 0 0] 49 (0, 0))) (hne : ob ≠ rb) (HT : Hid (∀ W, Fr (tkS rb ob) w W → LTabs W)) :
    Calls Tryz.prog 44 #[.pointer (some ⟨rb, 0, none⟩), .func (.func 45) #[] #[.pointer (some ⟨ob, 0, none⟩)]] w fun e w' => e = .returned (.tuple #[.int .i64 2, .int .i64 120]) ∧ True ∧ Fr (tkS rb ob) w w' := by
  have hrb := h.lt
  have hob := lt_of_block ho
  have HRB : Hid (∀ W, Fr (tkS rb ob) w W → ∀ V, Fr (oneB rb) W V → LTabs V) := fun W hW V hV => HT.out V (hW.trans (hV.mono fun b _ e => Or.inl e))
  go_enter Tryz.func44, Tryz.ntmps44
  go_wp2_with fail
  refine wp_scope_jumps_n 12 ?_
  have st0 : TkS w (w.alloc (.cells #[.int .i64 0, .float .f64 0, .string ⟨#[]⟩, .string ⟨#[]⟩, .string ⟨#[]⟩, .bool false, .bool false, .int .i64 0, .int .i64 0, .bool false, .bool false, .int .i64 0, .int .i64 0, .bool false, .bool false, .int .i64 0, .int .i64 0] 28 (0, 0))) rb ob txb 0 0 none 0 [] #[.int .i64 0, .float .f64 0, .string ⟨#[]⟩, .string ⟨#[]⟩, .string ⟨#[]⟩, .bool false, .bool false, .int .i64 0, .int .i64 0, .bool false, .bool false, .int .i64 0, .int .i64 0, .bool false, .bool false, .int .i64 0, .int .i64 0] := by
    have hF := (Fr.refl noB w).alloc (.cells #[.int .i64 0, .float .f64 0, .string ⟨#[]⟩, .string ⟨#[]⟩, .string ⟨#[]⟩, .bool false, .bool false, .int .i64 0, .int .i64 0, .bool false, .bool false, .int .i64 0, .int .i64 0, .bool false, .bool false, .int .i64 0, .int .i64 0] 28 (0, 0))
    exact ⟨h.fr hF id, ⟨hF.obj ho id, ⟨rfl, Or.inl ⟨rfl, rfl⟩⟩, by omega, by simp⟩, heap_alloc_new w _, hF.weak⟩
  have HS : Hid _ := st0
  clear st0 h ho
  go_wp2_with fail
  generalize w.alloc (.cells #[.int .i64 0, .float .f64 0, .string ⟨#[]⟩, .string ⟨#[]⟩, .string ⟨#[]⟩, .bool false, .bool false, .int .i64 0, .int .i64 0, .bool false, .bool false, .int .i64 0, .int .i64 0, .bool false, .bool false, .int .i64 0, .int .i64 0] 28 (0, 0)) = W0 at HS ⊢
  go_step3
  go_wp2_with (first
    | (go_at_call 73; refine (skb0 rb _ HS.out.l (HT.out _ HS.out.f).t).mono ?_; rintro e w1 ⟨rfl, hL1, hF1⟩
       have HS1 : Hid _ := HS.out.rd hrb hne hL1 hF1
       have d1 := HS1.out.l.c1
       clear hL1 hF1)
    | (refine wpList_store_row rfl 28 (.tmp 6) (.tmp 14) rfl w.heap.size #[.int .i64 0, .float .f64 0, .string ⟨#[]⟩, .string ⟨#[]⟩, .string ⟨#[]⟩, .bool false, .bool false, .int .i64 0, .int .i64 0, .bool false, .bool false, .int .i64 0, .int .i64 0, .bool false, .bool false, .int .i64 0, .int .i64 0] rfl rfl 28 #[.int .i64 0, .float .f64 0, .string ⟨#[]⟩, .string ⟨#[]⟩, .string ⟨#[]⟩, .bool false, .bool false, .int .i64 0, .int .i64 0, .bool false, .bool false, .int .i64 0, .int .i64 0, .bool false, .bool false, .int .i64 0, .int .i64 0] HS1.out.x info_lx rfl (lx_one _ _ _ _ _ _ _ _ _ _ _ _ _ _ _ _ _) ?_
       have st2 := HS1.out.row hrb hob #[.int .i64 0, .float .f64 0, .string ⟨#[]⟩, .string ⟨#[]⟩, .string ⟨#[]⟩, .bool false, .bool false, .int .i64 0, .int .i64 0, .bool false, .bool false, .int .i64 0, .int .i64 0, .bool false, .bool false, .int .i64 0, .int .i64 0]
       generalize w1.setRow w.heap.size #[.int .i64 0, .float .f64 0, .string ⟨#[]⟩, .string ⟨#[]⟩, .string ⟨#[]⟩, .bool false, .bool false, .int .i64 0, .int .i64 0, .bool false, .bool false, .int .i64 0, .int .i64 0, .bool false, .bool false, .int .i64 0, .int .i64 0] = W2 at st2 ⊢
       have HS2 : Hid _ := st2
       clear st2 d1)
    | (go_at_call 75; refine (pkb0 rb _ HS2.out.l (HT.out _ HS2.out.f).t).mono ?_; rintro e w3 ⟨rfl, hF3⟩
       have HS3 : Hid _ := HS2.out.nb hF3
       have k0 := cellOf (o := 0) HS3.out.x rfl
       have f0 := freeOf 0 HS3.out.x
       clear hF3)
    | (go_at_call 46; refine (isDigit_lx (120) _).mono ?_; rw [show dgI (120) = false from rfl]; rintro e w4 ⟨rfl, rfl⟩)
    | (go_at_call 23; refine (beginsName_lx (120) _).mono ?_; rw [show bgI (120) = true from rfl]; rintro e w4 ⟨rfl, rfl⟩))
  go_step3
  refine ⟨_, rfl, ?_⟩
  go_wp2_with (first
    | (go_at_call 80
       have HS4 : Hid _ := HS3.out.set hrb hob 0 (.int .i64 4)
       refine (nmb rb _ HS4.out.l (HT.out _ HS4.out.f) (HRB.out _ HS4.out.f)).mono ?_; rintro e w5 ⟨rfl, hL5, hF5⟩
       have HS5 : Hid (TkS w w5 rb ob txb 1 0 _ _ _ #[.int .i64 4, .float .f64 0, .string ⟨#[]⟩, .string ⟨#[]⟩, .string ⟨#[]⟩, .bool false, .bool false, .int .i64 0, .int .i64 0, .bool false, .bool false, .int .i64 0, .int .i64 0, .bool false, .bool false, .int .i64 0, .int .i64 0]) := HS4.out.rd hrb hne hL5 hF5
       have k2 := cellOf (o := 2) HS5.out.x rfl; have f2 := freeOf 2 HS5.out.x
       clear hL5 hF5 k0 f0 HS4 HS3))
  go_step3
  refine ⟨_, rfl, ?_⟩
  have HS6 : Hid (TkS w (w5.setCell ⟨w.heap.size, 2, none⟩ (.string ⟨#[120]⟩)) rb ob txb 1 0 _ _ _ #[.int .i64 4, .float .f64 0, .string ⟨#[120]⟩, .string ⟨#[]⟩, .string ⟨#[]⟩, .bool false, .bool false, .int .i64 0, .int .i64 0, .bool false, .bool false, .int .i64 0, .int .i64 0, .bool false, .bool false, .int .i64 0, .int .i64 0]) := HS5.out.set hrb hob 2 (.string ⟨#[120]⟩)
  go_wp2_with (first
    | (refine wpList_load_row rfl 28 (.tmp 6) rfl w.heap.size rfl 28 #[.int .i64 4, .float .f64 0, .string ⟨#[120]⟩, .string ⟨#[]⟩, .string ⟨#[]⟩, .bool false, .bool false, .int .i64 0, .int .i64 0, .bool false, .bool false, .int .i64 0, .int .i64 0, .bool false, .bool false, .int .i64 0, .int .i64 0] (0, 0) _ HS6.out.x Tryz.underlying28 rfl info_lx ?_)
    | (go_at_call 45; refine (yield_lx (4) (0) (⟨#[120]⟩) (⟨#[]⟩) (⟨#[]⟩) (false) (false) (0) (0) (false) (false) (0) (0) (false) (false) (0) (0) ob (w.heap.size + 1) 0 _ _ _ _ HS6.out.o (by omega)).mono ?_; rintro e w7 ⟨rfl, ⟨g0, cap0, hO7⟩, hF7⟩
       have HS7 : Hid _ := HS6.out.yl hrb hob hne hO7 hF7
       clear hO7 hF7))
  go_step3
  refine ⟨_, rfl, ?_⟩
  have HS := HS7
  clear HS6 HS7
  go_wp2_with (first
    | (go_at_call 73; refine (skb1 rb _ HS.out.l (HT.out _ HS.out.f).t).mono ?_; rintro e w1 ⟨rfl, hL1, hF1⟩
       have HS1 : Hid _ := HS.out.rd hrb hne hL1 hF1
       have d1 := HS1.out.l.c1
       clear hL1 hF1))
  go_step3
  refine ⟨_, rfl, ?_⟩
  have HS := HS1
  clear HS1 d1
  go_wp2_with (first
    | (go_at_call 73; refine (skb2 rb _ HS.out.l (HT.out _ HS.out.f).t).mono ?_; rintro e w1 ⟨rfl, hL1, hF1⟩
       have HS1 : Hid _ := HS.out.rd hrb hne hL1 hF1
       have d1 := HS1.out.l.c1
       clear hL1 hF1)
    | (refine wpList_store_row rfl 28 (.tmp 6) (.tmp 14) rfl w.heap.size #[.int .i64 0, .float .f64 0, .string ⟨#[]⟩, .string ⟨#[]⟩, .string ⟨#[]⟩, .bool false, .bool false, .int .i64 0, .int .i64 0, .bool false, .bool false, .int .i64 0, .int .i64 0, .bool false, .bool false, .int .i64 0, .int .i64 2] rfl rfl 28 #[.int .i64 4, .float .f64 0, .string ⟨#[120]⟩, .string ⟨#[]⟩, .string ⟨#[]⟩, .bool false, .bool false, .int .i64 0, .int .i64 0, .bool false, .bool false, .int .i64 0, .int .i64 0, .bool false, .bool false, .int .i64 0, .int .i64 0] HS1.out.x info_lx rfl (lx_one _ _ _ _ _ _ _ _ _ _ _ _ _ _ _ _ _) ?_
       have st2 := HS1.out.row hrb hob #[.int .i64 0, .float .f64 0, .string ⟨#[]⟩, .string ⟨#[]⟩, .string ⟨#[]⟩, .bool false, .bool false, .int .i64 0, .int .i64 0, .bool false, .bool false, .int .i64 0, .int .i64 0, .bool false, .bool false, .int .i64 0, .int .i64 2]
       generalize w1.setRow w.heap.size #[.int .i64 0, .float .f64 0, .string ⟨#[]⟩, .string ⟨#[]⟩, .string ⟨#[]⟩, .bool false, .bool false, .int .i64 0, .int .i64 0, .bool false, .bool false, .int .i64 0, .int .i64 0, .bool false, .bool false, .int .i64 0, .int .i64 2] = W2 at st2 ⊢
       have HS2 : Hid _ := st2
       clear st2 d1)
    | (go_at_call 75; refine (pkb2 rb _ HS2.out.l (HT.out _ HS2.out.f).t).mono ?_; rintro e w3 ⟨rfl, hF3⟩
       have HS3 : Hid _ := HS2.out.nb hF3
       have k0 := cellOf (o := 0) HS3.out.x rfl
       have f0 := freeOf 0 HS3.out.x
       clear hF3)
    | (go_at_call 46; refine (isDigit_lx (63) _).mono ?_; rw [show dgI (63) = false from rfl]; rintro e w4 ⟨rfl, rfl⟩)
    | (go_at_call 23; refine (beginsName_lx (63) _).mono ?_; rw [show bgI (63) = false from rfl]; rintro e w4 ⟨rfl, rfl⟩)
    | (go_at_call 76
       have HS4 : Hid _ := HS3.out.set hrb hob 0 (.int .i64 6)
       refine (sgb rb _ HS4.out.l (HT.out _ HS4.out.f)).mono ?_; rintro e w5 ⟨rfl, hL5, hF5⟩
       have HS5 : Hid (TkS w w5 rb ob txb 2 1 _ _ _ #[.int .i64 6, .float .f64 0, .string ⟨#[]⟩, .string ⟨#[]⟩, .string ⟨#[]⟩, .bool false, .bool false, .int .i64 0, .int .i64 0, .bool false, .bool false, .int .i64 0, .int .i64 0, .bool false, .bool false, .int .i64 0, .int .i64 2]) := HS4.out.rd hrb hne hL5 hF5
       have k2 := cellOf (o := 2) HS5.out.x rfl
       have f2 := freeOf 2 HS5.out.x
       clear hL5 hF5 k0 f0 HS4 HS3))
  go_step3
  refine ⟨_, rfl, ?_⟩
  have HS6 : Hid (TkS w (w5.setCell ⟨w.heap.size, 2, none⟩ (.string ⟨#[]⟩)) rb ob txb 2 1 _ _ _ #[.int .i64 6, .float .f64 0, .string ⟨#[]⟩, .string ⟨#[]⟩, .string ⟨#[]⟩, .bool false, .bool false, .int .i64 0, .int .i64 0, .bool false, .bool false, .int .i64 0, .int .i64 0, .bool false, .bool false, .int .i64 0, .int .i64 2]) := HS5.out.set hrb hob 2 (.string ⟨#[]⟩)
  have k16 := cellOf (o := 16) HS6.out.x rfl
  go_wp2_with fail
  rw [jumpsTo_ret]
  go_ret2
  exact ⟨rfl, trivial, HS6.out.f⟩
#print axioms tokens_b
end Go.Proofs.YtkohohjpnlhioaaGreatDoor
/- Tokens of two texts; the law's begun. -/
namespace Go.Proofs.YtkohohjpnlhioaaGreatDoor
open Go.RowKit Go.Shelf

theorem LTabs.fr {w w' : World} (h : LTabs w) (hF : Fr noB w w') : LTabs w' := ⟨h.t.keep hF, h.s.fr hF id, h.x.fr hF, h.p.fr hF⟩
set_option maxRecDepth 100000 in
theorem tooLong_lx (s : ByteArray) (hs : s.size ≤ 8192) (w : World) : Calls Tryz.prog 43 #[.string s] w fun e w' => e = .returned (.bool false) ∧ w' = w := by
  have g : ¬ (8192 : Int) < (s.size : Int) := by omega
  go_enter Tryz.func43, Tryz.ntmps43
  go_wp2_with fail
  go_ret
  exact ⟨by first | rfl | exact ret_bool (decide_eq_false g), rfl⟩
theorem tk_set (w : World) (s : ByteArray) (hT : LTabs w) : LAt ((w.alloc (.cells #[.slice none 0 0] 49 (0, 0))).alloc (.cells #[.string s, .int .i64 0] 66 (0, 0))) (w.heap.size + 1) s 0 ∧
    ((w.alloc (.cells #[.slice none 0 0] 49 (0, 0))).alloc (.cells #[.string s, .int .i64 0] 66 (0, 0))).heap[w.heap.size]? = some (.cells #[.slice none 0 0] 49 (0, 0)) ∧
    (∀ W, Fr (tkS (w.heap.size + 1) w.heap.size) ((w.alloc (.cells #[.slice none 0 0] 49 (0, 0))).alloc (.cells #[.string s, .int .i64 0] 66 (0, 0))) W → Fr noB w W ∧ LTabs W) := by
  have h2 := heap_two w (.cells #[.slice none 0 0] 49 (0, 0)) (.cells #[.string s, .int .i64 0] 66 (0, 0))
  have hF : Fr noB w ((w.alloc (.cells #[.slice none 0 0] 49 (0, 0))).alloc (.cells #[.string s, .int .i64 0] 66 (0, 0))) := ((Fr.refl noB w).alloc _).alloc _
  refine ⟨⟨h2.2⟩, h2.1, fun W hW => ?_⟩
  have hG : Fr noB w W := hF.then hW (fun i e => Or.inr (by rcases e with e | e <;> omega))
  exact ⟨hG, hT.fr hG⟩
set_option maxRecDepth 100000 in
set_option maxHeartbeats 1000000 in
theorem tokens22a (w : World) (hT : LTabs w) : Calls Tryz.prog 22 #[.string txa] w fun e w' => (∃ g cap, e = .returned (.tuple #[.slice (some ⟨g, 0, none⟩) 3 cap, .int .i64 0, .int .i64 0]) ∧ w'.cell? ⟨g, 34, none⟩ = some (.int .i64 3)) ∧ Fr noB w w' := by
  have hmf : ∀ (fn : Fn) (first cap : Array Value) (w : World), (Instr.makeFunc fn first cap).run Tryz.prog w = .ok (.func fn first cap) w := fun _ _ _ _ => rfl
  have H1 := tooLong_lx txa (by decide)
  obtain ⟨a1, a2, a3⟩ := tk_set w txa hT
  have HTK := tokens_a (w.heap.size + 1) w.heap.size _ a1 a2 (by omega) (fun W hW => (a3 W hW).2)
  have HA3 : Hid _ := a3
  clear a1 a2 a3 hT
  generalize txa = s at *
  go_enter Tryz.func22, Tryz.ntmps22
  go_wp2_with (first | (go_at_call 43; refine (H1 _).mono ?_; rintro e w1 ⟨rfl, rfl⟩))
  refine HTK.mono ?_
  rintro e w2 ⟨rfl, ⟨g, cap, hc, hk⟩, hF2⟩
  have HF3 : Hid _ := (HA3.out _ hF2).1
  have HK : Hid _ := hk
  clear hF2 hk
  go_wp2_with fail
  go_ret3
  exact ⟨⟨g, cap, rfl, HK.out⟩, HF3.out⟩
set_option maxRecDepth 100000 in
set_option maxHeartbeats 1000000 in
theorem tokens22b (w : World) (hT : LTabs w) : Calls Tryz.prog 22 #[.string txb] w fun e w' => e = .returned (.tuple #[.slice none 0 0, .int .i64 2, .int .i64 120]) ∧ Fr noB w w' := by
  have hmf : ∀ (fn : Fn) (first cap : Array Value) (w : World), (Instr.makeFunc fn first cap).run Tryz.prog w = .ok (.func fn first cap) w := fun _ _ _ _ => rfl
  have H1 := tooLong_lx txb (by decide)
  obtain ⟨a1, a2, a3⟩ := tk_set w txb hT
  have HTK := tokens_b (w.heap.size + 1) w.heap.size _ a1 a2 (by omega) (fun W hW => (a3 W hW).2)
  have HA3 : Hid _ := a3
  clear a1 a2 a3 hT
  generalize txb = s at *
  go_enter Tryz.func22, Tryz.ntmps22
  go_wp2_with (first
    | (go_at_call 43; refine (H1 _).mono ?_; rintro e w1 ⟨rfl, rfl⟩)
    | (go_at_call 44; refine HTK.mono ?_; rintro e w2 ⟨rfl, _, hF2⟩; have HF3 : Hid _ := (HA3.out _ hF2).1; clear hF2))
  go_ret3
  exact ⟨rfl, HF3.out⟩
set_option maxRecDepth 100000 in
set_option maxHeartbeats 1000000 in
theorem begun_lx (w : World) (hT : LTabs w) : Calls Tryz.prog 8 #[] w fun e w' => e = .returned (.bool true) ∧ Fr noB w w' := by
  have H1 := tokens22a w hT
  have H2 : Hid (∀ W, Fr noB w W → Calls Tryz.prog 22 #[.string ⟨#[120, 32, 63]⟩] W fun e w' => e = .returned (.tuple #[.slice none 0 0, .int .i64 2, .int .i64 120]) ∧ Fr noB W w') := fun W hW => tokens22b W (hT.fr hW)
  have H1' : Calls Tryz.prog 22 #[.string ⟨#[49, 43, 91, 46, 65, 49, 93]⟩] w fun e w' => (∃ g cap, e = .returned (.tuple #[.slice (some ⟨g, 0, none⟩) 3 cap, .int .i64 0, .int .i64 0]) ∧ w'.cell? ⟨g, 34, none⟩ = some (.int .i64 3)) ∧ Fr noB w w' := H1
  clear hT H1
  go_enter Tryz.func8, Tryz.ntmps8
  go_wp2_with (first
    | (go_at_call_of 22 (Value.string ⟨#[49, 43, 91, 46, 65, 49, 93]⟩); refine H1'.mono ?_; rintro e w1 ⟨⟨g, cap, rfl, hk⟩, hF1⟩)
    | (go_at_call_of 22 (Value.string ⟨#[120, 32, 63]⟩); refine (H2.out _ hF1).mono ?_; rintro e w2 ⟨rfl, hF2⟩; have hk2 : w2.cell? ⟨g, 34, none⟩ = some (.int .i64 3) := (hF2.cell (a := ⟨g, 34, none⟩) (World.block_lt_of_cell? _ _ hk) id).trans hk))
  go_ret
  exact ⟨rfl, hF1.trans hF2⟩
#print axioms begun_lx
end Go.Proofs.YtkohohjpnlhioaaGreatDoor
