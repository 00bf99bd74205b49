/- A row of tokens that grows, and the function that Tokens hands to the reader. -/
import Derived.Test.YtkohohjpnlhioaaGreatDoorK03
import Derived.Deep.Cut
import Derived.Deep.AppendLies
import Derived.Laws.OwnMore
namespace Go.Proofs.YtkohohjpnlhioaaGreatDoor
open Go.RowKit

theorem own_keep {S : Nat → Prop} {w w' : World} {base n sz : Nat} {e : TypeId} {v : Value} {xs : List Value} (h : w.ownsRow base e sz v n xs) (hF : Fr S w w') (hs : ∀ b, base ≤ b → b < w.heap.size → ¬ S b) : w'.ownsRow base e sz v n xs := by
  refine ⟨h.1, ?_⟩
  rcases h.2 with h0 | ⟨g, cap, cur, hv, hb, hg, h1, h2, h3, h4⟩
  · exact Or.inl h0
  · exact Or.inr ⟨g, cap, cur, hv, hb, hF.obj hg (hs g hb (lt_of_block hg)), h1, h2, h3, h4⟩
/-- The row that is gathered: the variable at ob holds v, which has n tokens, cell by cell xs, above base. -/
structure OutAt (w : World) (ob base n : Nat) (v : Value) (xs : List Value) : Prop where
  o : w.heap[ob]? = some (.cells #[v] 49 (0, 0))
  r : w.ownsRow base 28 17 v n xs
  b : ob < base
  l : base ≤ w.heap.size
theorem OutAt.fr {S : Nat → Prop} {w w' : World} {ob base n : Nat} {v : Value} {xs : List Value} (h : OutAt w ob base n v xs) (hF : Fr S w w') (h1 : ¬ S ob) (hs : ∀ b, base ≤ b → b < w.heap.size → ¬ S b) : OutAt w' ob base n v xs :=
  ⟨hF.obj h.o h1, own_keep h.r hF hs, h.b, Nat.le_trans h.l hF.size⟩
/-- What a token more may change. -/
def outS (ob base : Nat) (b : Nat) : Prop := b = ob ∨ base ≤ b
theorem lx_info : ∃ i, Tryz.prog.info? 28 = some i ∧ i.zero = some (.agg #[.int .i64 0, .float .f64 0, .string ⟨#[]⟩, .string ⟨#[]⟩, .string ⟨#[]⟩, .bool false, .bool false, .int .i64 0, .int .i64 0, .bool false, .bool false, .int .i64 0, .int .i64 0, .bool false, .bool false, .int .i64 0, .int .i64 0]) ∧ i.size = 17 ∧ i.bytes = 136 := by
  have h : (Tryz.prog.info? 28).isSome = true := by kernel_rfl
  obtain ⟨i, hi⟩ := Option.isSome_iff_exists.1 h
  have e1 : (Tryz.prog.info? 28).bind (·.zero) = some (.agg #[.int .i64 0, .float .f64 0, .string ⟨#[]⟩, .string ⟨#[]⟩, .string ⟨#[]⟩, .bool false, .bool false, .int .i64 0, .int .i64 0, .bool false, .bool false, .int .i64 0, .int .i64 0, .bool false, .bool false, .int .i64 0, .int .i64 0]) := by kernel_rfl
  have e2 : (Tryz.prog.info? 28).map (·.size) = some 17 := by kernel_rfl
  have e3 : (Tryz.prog.info? 28).map (·.bytes) = some 136 := by kernel_rfl
  rw [hi] at e1 e2 e3
  exact ⟨i, hi, e1, Option.some.inj e2, Option.some.inj e3⟩
theorem lx_src (w : World) (L : List Value) (t : TypeId) : ∀ j u, L[j]? = some u → (w.alloc (.cells L.toArray t (0, 0))).cell? ((⟨w.heap.size, 0, none⟩ : Addr).add j) = some u :=
  World.news_of_block (cs := L.toArray) (heap_alloc_new w _)
theorem lx_ones (k : Int) (x : Nat) (t : ByteArray) (r1 r2 : ByteArray) (r3 r4 : Bool) (r5 r6 : Int) (r7 r8 : Bool) (r9 r10 : Int) (r11 r12 : Bool) (er pl : Int) : ∀ u ∈ ([.int .i64 k, .float .f64 x, .string t, .string r1, .string r2, .bool r3, .bool r4, .int .i64 r5, .int .i64 r6, .bool r7, .bool r8, .int .i64 r9, .int .i64 r10, .bool r11, .bool r12, .int .i64 er, .int .i64 pl] : List Value), u.oneCell' = true := by
  intro u hu
  simp only [List.mem_cons, List.not_mem_nil, or_false] at hu
  rcases hu with rfl | rfl | rfl | rfl | rfl | rfl | rfl | rfl | rfl | rfl | rfl | rfl | rfl | rfl | rfl | rfl | rfl <;> rfl
theorem own_ge {w : World} {base n sz : Nat} {e : TypeId} {v : Value} {xs : List Value} (h : w.ownsRow base e sz v n xs) (b : Nat) (hb : v.ownBlock = some b) : base ≤ b := by
  rcases h.2 with ⟨rfl, _⟩ | ⟨g, cap, cur, rfl, h1, _⟩
  · cases hb
  · cases hb; exact h1
set_option maxRecDepth 100000 in
set_option maxHeartbeats 2000000 in
theorem yield_lx (k : Int) (x : Nat) (t : ByteArray) (r1 r2 : ByteArray) (r3 r4 : Bool) (r5 r6 : Int) (r7 r8 : Bool) (r9 r10 : Int) (r11 r12 : Bool) (er pl : Int) (ob base n : Nat) (so : Option Addr) (sc : Nat) (xs : List Value) (w : World) (h : OutAt w ob base n (.slice so n sc) xs) (hn : n ≤ 1000000) :
    Calls Tryz.prog 45 #[(.agg #[.int .i64 k, .float .f64 x, .string t, .string r1, .string r2, .bool r3, .bool r4, .int .i64 r5, .int .i64 r6, .bool r7, .bool r8, .int .i64 r9, .int .i64 r10, .bool r11, .bool r12, .int .i64 er, .int .i64 pl]), .pointer (some ⟨ob, 0, none⟩)] w fun e w' => e = .returned (.bool true) ∧ (∃ g cap, OutAt w' ob base (n + 1) (.slice (some ⟨g, 0, none⟩) (n + 1) cap) (xs ++ [.int .i64 k, .float .f64 x, .string t, .string r1, .string r2, .bool r3, .bool r4, .int .i64 r5, .int .i64 r6, .bool r7, .bool r8, .int .i64 r9, .int .i64 r10, .bool r11, .bool r12, .int .i64 er, .int .i64 pl])) ∧ Fr (outS ob base) w w' := by
  obtain ⟨i, hi, hiz, his, hib⟩ := lx_info
  have HH : Hid _ := h
  go_enter Tryz.func45, Tryz.ntmps45
  go_upto_region 1 with fail
  obtain ⟨W0, hW0⟩ : ∃ W0, w.alloc (.cells #[.int .i64 k, .float .f64 x, .string t, .string r1, .string r2, .bool r3, .bool r4, .int .i64 r5, .int .i64 r6, .bool r7, .bool r8, .int .i64 r9, .int .i64 r10, .bool r11, .bool r12, .int .i64 er, .int .i64 pl] 28 (0, 0)) = W0 := ⟨_, rfl⟩
  have hA : Hid (W0.heap[w.heap.size]? = some (.cells #[.int .i64 k, .float .f64 x, .string t, .string r1, .string r2, .bool r3, .bool r4, .int .i64 r5, .int .i64 r6, .bool r7, .bool r8, .int .i64 r9, .int .i64 r10, .bool r11, .bool r12, .int .i64 er, .int .i64 pl] 28 (0, 0))) := by rw [← hW0]; exact heap_alloc_new w _
  have HF : Hid (Fr noB w W0) := by rw [← hW0]; exact (Fr.refl noB w).alloc _
  rw [hW0]
  clear hW0
  have HO : Hid (OutAt W0 ob base n (.slice so n sc) xs) := h.fr HF.out id (fun _ _ _ e => e)
  have c0 := cellOf (o := 0) HO.out.o rfl
  generalize w.heap.size = H at *
  clear h
  go_wp2_with (first
    | (refine wpList_load_row rfl 28 (.tmp 2) rfl H rfl 28 #[.int .i64 k, .float .f64 x, .string t, .string r1, .string r2, .bool r3, .bool r4, .int .i64 r5, .int .i64 r6, .bool r7, .bool r8, .int .i64 r9, .int .i64 r10, .bool r11, .bool r12, .int .i64 er, .int .i64 pl] (0, 0) _ hA.out Tryz.underlying28 rfl info_lx ?_)
    | (refine wpList_append_lies _ rfl _ _ 49 rfl base 28 i (.agg #[.int .i64 0, .float .f64 0, .string ⟨#[]⟩, .string ⟨#[]⟩, .string ⟨#[]⟩, .bool false, .bool false, .int .i64 0, .int .i64 0, .bool false, .bool false, .int .i64 0, .int .i64 0, .bool false, .bool false, .int .i64 0, .int .i64 0]) 17 136 Tryz.underlying49 hi hiz his hib rfl (by decide) _ n xs rfl (HO.out.r.alloc _) ⟨W0.heap.size, 0, none⟩ 1 1 [.int .i64 k, .float .f64 x, .string t, .string r1, .string r2, .bool r3, .bool r4, .int .i64 r5, .int .i64 r6, .bool r7, .bool r8, .int .i64 r9, .int .i64 r10, .bool r11, .bool r12, .int .i64 er, .int .i64 pl] rfl rfl (lx_src W0 [.int .i64 k, .float .f64 x, .string t, .string r1, .string r2, .bool r3, .bool r4, .int .i64 r5, .int .i64 r6, .bool r7, .bool r8, .int .i64 r9, .int .i64 r10, .bool r11, .bool r12, .int .i64 er, .int .i64 pl] 28) (lx_ones k x t r1 r2 r3 r4 r5 r6 r7 r8 r9 r10 r11 r12 er pl) (by decide) (by unfold maxLen; omega) (by omega) (by have := HO.out.l; simp; omega) _ rfl ?_
       intro g cap wA hown hg hwh hlt
       have hF1 : Fr (fun b => (Value.slice so n sc).ownBlock = some b) W0 wA := ((Fr.refl _ W0).alloc (.cells #[.int .i64 k, .float .f64 x, .string t, .string r1, .string r2, .bool r3, .bool r4, .int .i64 r5, .int .i64 r6, .bool r7, .bool r8, .int .i64 r9, .int .i64 r10, .bool r11, .bool r12, .int .i64 er, .int .i64 pl] 28 (0, 0))).grown hg (fun k hk => Or.inl hk)
       have hnb : ¬ (Value.slice so n sc).ownBlock = some ob := fun e => by have := own_ge HO.out.r ob e; have := HO.out.b; omega
       have hob := hF1.obj HO.out.o hnb
       have c1 := cellOf (o := 0) hob rfl
       have f1 := freeOf 0 hob
       have HD : Hid (OutAt (wA.setCell ⟨ob, 0, none⟩ (.slice (some ⟨g, 0, none⟩) (n + 1) cap)) ob base (n + 1) (.slice (some ⟨g, 0, none⟩) (n + 1) cap) (xs ++ [.int .i64 k, .float .f64 x, .string t, .string r1, .string r2, .bool r3, .bool r4, .int .i64 r5, .int .i64 r6, .bool r7, .bool r8, .int .i64 r9, .int .i64 r10, .bool r11, .bool r12, .int .i64 er, .int .i64 pl]) ∧ Fr (outS ob base) w (wA.setCell ⟨ob, 0, none⟩ (.slice (some ⟨g, 0, none⟩) (n + 1) cap))) := by
         have hFo : Fr (outS ob base) w wA := HF.out.weak.trans (hF1.mono fun b _ e => Or.inr (own_ge HO.out.r b e))
         refine ⟨⟨setOf 0 _ hob, own_keep hown ((Fr.refl (oneB ob) wA).setOne 0 _) (fun b hb _ e => by have e : b = ob := e; have := HO.out.b; omega), HO.out.b, ?_⟩, hFo.setCell ⟨ob, 0, none⟩ (Or.inl (Or.inl rfl)) _⟩
         have := HO.out.l
         have := hF1.size
         simp
         omega
       clear hown hg hwh hlt hF1 hnb hob))
  go_ret
  exact ⟨rfl, ⟨_, _, HD.out.1⟩, HD.out.2⟩
#print axioms yield_lx
end Go.Proofs.YtkohohjpnlhioaaGreatDoor
