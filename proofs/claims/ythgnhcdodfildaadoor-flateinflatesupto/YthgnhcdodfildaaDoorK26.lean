/- repetition and lengths: their contracts. -/
import Derived.Test.YthgnhcdodfildaaDoorK25
import Derived.Laws.AppendOwn
import Derived.Laws.OwnMore
import Derived.OwnWalk
namespace Go.Proofs.YthgnhcdodfildaaDoor
open Go.RowKit Go.Shelf
attribute [local go_sem ↓] Go.wp_at_zero Go.wp_at_succ

/-- A row of lengths that the call itself made. -/
def OwnN (base : Nat) (w : World) (so : Option Addr) (sc : Nat) (D : List Nat) : Prop := w.ownsRow base 3 1 (.slice so D.length sc) D.length (nVals .i64 D)
theorem OwnN.keep {base : Nat} {w w' : World} {so : Option Addr} {sc : Nat} {D : List Nat} {S : Nat → Prop} (h : OwnN base w so sc D) (hF : Fr S w w') (hS : ∀ k, S k → k < base) : OwnN base w' so sc D := by
  refine ⟨h.1, ?_⟩
  rcases h.2 with h0 | ⟨g, cap, cur, hv, hb, hg, r⟩
  · exact .inl h0
  · exact .inr ⟨g, cap, cur, hv, hb, hF.obj hg (fun hk => by have := hS g hk; omega), r⟩
theorem OwnN.cells {base : Nat} {w : World} {so : Option Addr} {sc : Nat} {D : List Nat} (h : OwnN base w so sc D) (i x : Nat) (hi : D[i]? = some x) : ∃ g, so = some ⟨g, 0, none⟩ ∧ base ≤ g ∧ g < w.heap.size ∧ w.cell? ⟨g, i, none⟩ = some (.int .i64 (x : Int)) := by
  have hl : i < D.length := (List.getElem?_eq_some_iff.1 hi).1
  rcases h.2 with ⟨hv, hz⟩ | ⟨g, cap, cur, hv, hb, hg, _⟩
  · omega
  · cases hv
    refine ⟨g, rfl, hb, lt_of_block hg, ?_⟩
    have := World.ownsRow.cells h (g := g) rfl i (.int .i64 (x : Int)) (by simp [nVals, hi])
    rwa [add_none, Nat.zero_add] at this
/-- A repetition: the length, how often, the error, the place behind. -/
def repA (B : List Nat) (p s : Nat) (D : List Nat) : Nat × Nat × Nat × Nat :=
  if s = 16 ∧ D = [] then (0, 0, 30, p)
  else (if s = 16 then D.getLastD 0 else 0, if (bitA B p (repB s)).2.1 = 0 then repF s + (bitA B p (repB s)).1 else 0, (bitA B p (repB s)).2.1, (bitA B p (repB s)).2.2)
theorem repB_le (s : Nat) : repB s ≤ 7 := by
  unfold repB
  repeat' split
  all_goals decide
theorem repF_le (s : Nat) : repF s ≤ 11 := by
  unfold repF
  repeat' split
  all_goals decide
set_option maxRecDepth 100000 in
set_option maxHeartbeats 1600000 in
theorem repetition_any (fb rb g p s base : Nat) (D : List Nat) (so : Option Addr) (sc : Nat) (B sd : List Nat) (most : Int) (sv : Value) (lt ds : Option Addr) (w : World) (h : InfIs w fb rb g B p most sv sd lt ds) (hO : OwnN base w so sc D) (hD : D.length ≤ 1024) (hs : s ≤ 65536) (hB : ∀ x ∈ B, x < 256) (hp : p ≤ 8 * B.length) (hl : B.length ≤ 140737488355328) :
    Calls Tryd.prog 79 #[.pointer (some ⟨fb, 0, none⟩), .int .i64 (s : Int), .slice so D.length sc] w fun e w' => e = .returned (.tuple #[.int .i64 (((repA B p s D).1 : Nat) : Int), .int .i64 (((repA B p s D).2.1 : Nat) : Int), .int .i64 (((repA B p s D).2.2.1 : Nat) : Int)]) ∧ InfIs w' fb rb g B (repA B p s D).2.2.2 most sv sd lt ds ∧ Fr (oneB rb) w w' := by
  have H1 := repeatSpan_any s
  have HN : Hid (∀ w', Fr noB w w' → Calls Tryd.prog 91 #[.pointer (some ⟨fb, 0, none⟩), .agg #[.int .i64 ((repF s : Nat) : Int), .int .i64 ((repB s : Nat) : Int)]] w' fun e w'' => e = .returned (.tuple #[.int .i64 ((if (bitA B p (repB s)).2.1 = 0 then repF s + (bitA B p (repB s)).1 else 0 : Nat) : Int), .int .i64 (((bitA B p (repB s)).2.1 : Nat) : Int)]) ∧ InfIs w'' fb rb g B (bitA B p (repB s)).2.2 most sv sd lt ds ∧ Fr (oneB rb) w' w'') := fun w' hF => number_any fb rb g p (repB s) (repF s) B sd most sv lt ds w' (h.keep hF id id id (fun _ _ _ _ h => h)) hB hp hl (by have := repB_le s; omega) (by have := repF_le s; omega)
  by_cases h16 : s = 16
  · by_cases hD0 : D = []
    · have e : repA B p s D = (0, 0, 30, p) := by unfold repA; rw [if_pos ⟨h16, hD0⟩]
      rw [e]
      subst h16 hD0
      have HI : Hid _ := h
      clear e h hO HN H1
      simp only [List.length_nil]
      go_enter Tryd.func79, Tryd.ntmps79
      go_wp2_with fail
      go_ret3
      exact ⟨rfl, HI.out, Fr.refl _ _⟩
    · have e : repA B p s D = (D.getLastD 0, if (bitA B p (repB s)).2.1 = 0 then repF s + (bitA B p (repB s)).1 else 0, (bitA B p (repB s)).2.1, (bitA B p (repB s)).2.2) := by unfold repA; rw [if_neg (fun hh => hD0 hh.2), if_pos h16]
      rw [e]
      clear e
      have hpos : 0 < D.length := by cases D; exact absurd rfl hD0; simp
      obtain ⟨x, hx⟩ : ∃ x, D.getLastD 0 = x := ⟨_, rfl⟩
      have hlast : D[D.length - 1]? = some x := by
        rw [← hx, ← List.getLast?_eq_getElem?]
        cases D with
        | nil => exact absurd rfl hD0
        | cons a t => simp [List.getLast?_cons, List.getLastD_eq_getLast?]
      obtain ⟨gg, rfl, hgb, hgl, hcell⟩ := hO.cells _ _ hlast
      rw [hx]
      obtain ⟨n, hn⟩ : ∃ n, D.length = n + 1 := ⟨D.length - 1, by omega⟩
      rw [hn] at hcell hD ⊢
      simp only [Nat.add_sub_cancel] at hcell
      generalize (if (bitA B p (repB s)).2.1 = 0 then repF s + (bitA B p (repB s)).1 else 0) = tm at *
      generalize bitA B p (repB s) = r at *
      generalize repF s = rf at *
      generalize repB s = rb' at *
      subst h16
      clear hO hx hlast h hn hpos
      go_enter Tryd.func79, Tryd.ntmps79
      go_wp2_with (first
        | (go_at_call 95; refine (H1 _).mono ?_; rintro e w1 ⟨rfl, hF1⟩)
        | (go_at_call 91; refine (HN.out _ hF1).mono ?_; rintro e w2 ⟨rfl, hI2, hF2⟩))
      go_ret3
      exact ⟨rfl, hI2, (Fr.weak hF1).trans hF2⟩
  · have e : repA B p s D = (0, if (bitA B p (repB s)).2.1 = 0 then repF s + (bitA B p (repB s)).1 else 0, (bitA B p (repB s)).2.1, (bitA B p (repB s)).2.2) := by unfold repA; rw [if_neg (fun hh => h16 hh.1), if_neg h16]
    rw [e]
    have e16 : ((s : Int) == 16) = false := by simp; omega
    generalize (if (bitA B p (repB s)).2.1 = 0 then repF s + (bitA B p (repB s)).1 else 0) = tm at *
    generalize bitA B p (repB s) = r at *
    generalize repF s = rf at *
    generalize repB s = rb' at *
    clear hO h e
    go_enter Tryd.func79, Tryd.ntmps79
    go_wp2_with (first
      | (go_at_call 95; refine (H1 _).mono ?_; rintro e w1 ⟨rfl, hF1⟩)
      | (go_at_call 91; refine (HN.out _ hF1).mono ?_; rintro e w2 ⟨rfl, hI2, hF2⟩))
    go_ret3
    exact ⟨rfl, hI2, (Fr.weak hF1).trans hF2⟩
#print axioms repetition_any
end Go.Proofs.YthgnhcdodfildaaDoor
/- lengths: its contract. -/
namespace Go.Proofs.YthgnhcdodfildaaDoor
open Go.RowKit Go.Shelf
attribute [local go_sem ↓] Go.wp_at_zero Go.wp_at_succ

/-- The lengths that a code tells: the error, the place behind, the lengths. -/
def lenA (T B : List Nat) (count : Nat) : Nat → Nat → List Nat → Nat × Nat × List Nat
  | 0, p, D => (33, p, D)
  | f + 1, p, D =>
    if count ≤ D.length then (0, p, D)
    else if (symA T B p).2.1 ≠ 0 then ((symA T B p).2.1, p, D)
    else if (symA T B p).1 < 16 then lenA T B count f (symA T B p).2.2 (D ++ [(symA T B p).1])
    else if (repA B (symA T B p).2.2 (symA T B p).1 D).2.2.1 ≠ 0 then ((repA B (symA T B p).2.2 (symA T B p).1 D).2.2.1, p, D)
    else if count < D.length + (repA B (symA T B p).2.2 (symA T B p).1 D).2.1 then (30, p, D)
    else lenA T B count f (repA B (symA T B p).2.2 (symA T B p).1 D).2.2.2 (D ++ List.replicate (repA B (symA T B p).2.2 (symA T B p).1 D).2.1 (repA B (symA T B p).2.2 (symA T B p).1 D).1)
theorem own_blk {base n : Nat} {w : World} {so : Option Addr} {sc : Nat} {xs : List Value} (h : w.ownsRow base 3 1 (.slice so n sc) n xs) (k : Nat) (hk : (Value.slice so n sc).ownBlock = some k) : base ≤ k ∧ ∃ cur, w.heap[k]? = some (.cells cur 3 (0, 0)) := by
  rcases h.2 with ⟨hv, hz⟩ | ⟨g, cap, cur, hv, hb, hg, _⟩
  · injection hv with e1 e2 e3
    rw [e1] at hk
    cases hk
  · injection hv with e1 e2 e3
    rw [e1] at hk
    cases hk
    exact ⟨hb, cur, hg⟩
theorem InfIs.app {w w' : World} {fb rb g p base n : Nat} {B sd : List Nat} {most : Int} {sv : Value} {lt ds : Option Addr} {so : Option Addr} {sc : Nat} {xs : List Value} (h : InfIs w fb rb g B p most sv sd lt ds) (hO : w.ownsRow base 3 1 (.slice so n sc) n xs) (hb : fb < base) (hF : Fr (fun b => (Value.slice so n sc).ownBlock = some b) w w') : InfIs w' fb rb g B p most sv sd lt ds :=
  h.keep hF (fun e => by have := (own_blk hO _ e).1; omega) (fun e => by have := (own_blk hO _ e).1; have := h.rlt; omega) (fun e => by have := (own_blk hO _ e).1; have := h.glt; omega) (fun k cur _ hk e => by
    obtain ⟨_, cur', hc⟩ := own_blk hO _ e
    rw [hk] at hc
    cases hc)
theorem one_srcN (w : World) (x : Value) (t : TypeId) : ∀ j u, [x][j]? = some u → (w.alloc (.cells #[x] t (0, 0))).cell? ((⟨w.heap.size, 0, none⟩ : Addr).add j) = some u := by
  intro j u hj
  match j, hj with
  | 0, hj =>
    simp at hj
    subst hj
    rw [add_none]
    exact cellOf (heap_alloc_new _ _) (by simp)
  | j + 1, hj => simp at hj
theorem info64N : (Tryd.prog.info? 3).map (fun i => (i.zero, i.size, i.bytes)) = some (some (.int .i64 0), 1, 8) := by kernel_rfl
theorem nVals_app (k : IntKind) (D : List Nat) (x : Nat) : nVals k D ++ [Value.int k (x : Int)] = nVals k (D ++ [x]) := by simp [nVals]
theorem own_formN {base e n : Nat} {v : Value} {xs : List Value} {w : World} (h : w.ownsRow base e 1 v n xs) : ∃ so sc, v = .slice so n sc := by
  rcases h.2 with ⟨hv, h0⟩ | ⟨g, cap, cur, hv, _⟩
  · exact ⟨none, 0, by rw [hv, h0]⟩
  · exact ⟨_, _, hv⟩
theorem repA_le (B : List Nat) (p s : Nat) (D : List Nat) (hp : p ≤ 8 * B.length) (h : (repA B p s D).2.2.1 = 0) : (repA B p s D).2.2.2 ≤ 8 * B.length ∧ 1 ≤ (repA B p s D).2.1 ∧ (repA B p s D).2.1 ≤ 200 := by
  unfold repA at *
  by_cases hc : s = 16 ∧ D = []
  · rw [if_pos hc] at h
    simp at h
  · rw [if_neg hc] at h ⊢
    simp only at h ⊢
    have h1 := bitA_le B p (repB s) hp
    have h2 := bitA_lt B p (repB s)
    have h3 : 2 ^ repB s ≤ 2 ^ 7 := Nat.pow_le_pow_right (by decide) (repB_le s)
    have h4 := repF_le s
    have h5 : 3 ≤ repF s := by
      unfold repF
      repeat' split
      all_goals decide
    rw [if_pos h]
    exact ⟨h1, by omega, by omega⟩
set_option maxRecDepth 100000 in
set_option maxHeartbeats 4000000 in
theorem ilengths_any (fb rb g p0 db sb count : Nat) (T B sd : List Nat) (most : Int) (sv : Value) (lt ds : Option Addr) (w : World) (h : InfIs w fb rb g B p0 most sv sd lt ds) (hd : DecIs w db sb T) (h1 : db ≠ rb) (h2 : sb ≠ rb) (hT : Code T) (hB : ∀ x ∈ B, x < 256) (hp : p0 ≤ 8 * B.length) (hl : B.length ≤ 140737488355328) (hc : count ≤ 1024) :
    Calls Tryd.prog 56 #[.pointer (some ⟨fb, 0, none⟩), .pointer (some ⟨db, 0, none⟩), .int .i64 (count : Int)] w fun e w' =>
      (((lenA T B count (count + 1) p0 []).1 ≠ 0 ∧ e = .returned (.tuple #[.slice none 0 0, .int .i64 (((lenA T B count (count + 1) p0 []).1 : Nat) : Int)])) ∨
       ((lenA T B count (count + 1) p0 []).1 = 0 ∧ ∃ so sc, e = .returned (.tuple #[.slice so (lenA T B count (count + 1) p0 []).2.2.length sc, .int .i64 0]) ∧ OwnN w.heap.size w' so sc (lenA T B count (count + 1) p0 []).2.2 ∧ InfIs w' fb rb g B (lenA T B count (count + 1) p0 []).2.1 most sv sd lt ds)) ∧ Fr (oneB rb) w w' := by
  obtain ⟨i0, hi, hz0, hz1, hz2⟩ := info_parts info64N
  obtain ⟨R, hR⟩ : ∃ R, lenA T B count (count + 1) p0 [] = R := ⟨_, rfl⟩
  rw [hR]
  have HR : Hid (lenA T B count (count + 1) p0 [] = R) := hR
  clear hR
  have hfb : fb < w.heap.size := lt_of_block h.at_
  have hrb : rb < w.heap.size := by have := h.rlt; omega
  have hdb : db < w.heap.size := lt_of_block hd.dec
  have hsb : sb < w.heap.size := lt_of_block hd.row
  have HI : Hid _ := h
  have HD : Hid (DecIs w db sb T) := hd
  clear h hd
  go_enter Tryd.func56, Tryd.ntmps56
  go_wp2_with (at_make; refine wpList_make_own _ rfl _ _ 73 rfl w.heap.size 3 i0 (.int .i64 0) 1 Tryd.underlying73 hi hz0 hz1 .i64 .i64 _ count rfl rfl (by omega) (by rw [hz2]; omega) (by unfold maxLen; omega) (Nat.le_refl _) ?_)
  intro w1 hown1 hg1
  have hF1 : Fr noB w w1 := (Fr.refl noB w).grown hg1 (by simp)
  have HO1 : Hid (OwnN w.heap.size w1 (some ⟨w.heap.size, 0, none⟩) count []) := hown1
  clear hown1 hg1
  go_wp2_with fail
  go_loopw [8] (fun lv wr => ∃ (D : List Nat) (so : Option Addr) (sc p f : Nat), lv = .slice so D.length sc ∧ D.length ≤ count ∧ count ≤ D.length + f ∧ p ≤ 8 * B.length ∧ OwnN w.heap.size wr so sc D ∧ InfIs wr fb rb g B p most sv sd lt ds ∧ DecIs wr db sb T ∧ Fr (oneB rb) w wr ∧ Hid (lenA T B count (f + 1) p D = R)) (fun lv _ => count - (match lv with | .slice _ n _ => n | _ => 0))
  case atStart => exact ⟨[], some ⟨w.heap.size, 0, none⟩, count, p0, count, rfl, Nat.zero_le _, by simp, hp, HO1.out, HI.out.keep hF1 id id id (fun _ _ _ _ h => h), HD.out.keep hF1 id id, hF1.weak, HR⟩
  case round =>
    clear HR HO1 hF1
    obtain ⟨D, so, sc, p, f, rfl, hDc, hcf, hpl, hO, hI, hDec, hF, HL⟩ := hrel
    by_cases hdone : count ≤ D.length
    · have HRR : Hid (R = (0, p, D)) := by
        have := HL.out
        unfold lenA at this
        rw [if_pos hdone] at this
        exact this.symm
      have hlen : D.length = count := by omega
      clear HL
      go_wp2_with fail
      go_ret2
      rw [HRR.out]
      exact ⟨Or.inr ⟨rfl, so, sc, rfl, hO, hI⟩, hF⟩
    · obtain ⟨f, rfl⟩ : ∃ f', f = f' + 1 := ⟨f - 1, by omega⟩
      have HL2 := HL.out
      unfold lenA at HL2
      rw [if_neg hdone] at HL2
      have hltI : (D.length : Int) < (count : Int) := by omega
      have C1 := symbol_any fb rb g p db sb T B sd most sv lt ds wr hI hDec h1 h2 hT hB hpl hl
      have hsl := symA_sym T B p
      have hTs := hT.short
      by_cases he : (symA T B p).2.1 = 0
      · rw [if_neg (fun hh => hh he)] at HL2
        have hple := symA_le T B p he
        obtain ⟨⟨s, e1, p1⟩, hsy⟩ : ∃ y, symA T B p = y := ⟨_, rfl⟩
        rw [hsy] at HL2 C1 hsl hple he
        simp only at HL2 C1 hsl hple he
        subst he
        have HO : Hid (OwnN w.heap.size wr so sc D) := hO
        have HDec : Hid (DecIs wr db sb T) := hDec
        clear hsy HL hO hI hDec
        by_cases h16 : s < 16
        · rw [if_pos h16] at HL2
          have HNEXT : Hid (lenA T B count (f + 1) p1 (D ++ List.replicate 1 s) = R) := HL2
          have h16I : ((s : Int) < 16) := by omega
          have HPP : Hid (p1 ≤ 8 * B.length) := hple
          have hone : (1 : Int) ≤ (count : Int) - (D.length : Int) := by omega
          clear HL2
          go_upto_region 13 with (go_at_call 76; refine C1.mono ?_; rintro e w2 ⟨rfl, hI2, hF2⟩)
          have hG2 : Fr (oneB rb) w w2 := hF.trans hF2
          have HO2 : Hid (OwnN w.heap.size w2 so sc D) := HO.out.keep hF2 (fun k hk => by have e' : k = rb := hk; omega)
          have HI2 : Hid (InfIs w2 fb rb g B p1 most sv sd lt ds) := by first | exact hI2 rfl | exact hI2 trivial | exact hI2
          have HD2 : Hid (DecIs w2 db sb T) := HDec.out.keep hF2 h1 h2
          clear hI2 HO HDec C1
          rename World => w2'
          go_wp2_with fail
          go_loopw [8, 49] (fun lv iv w3 => ∃ (k : Nat) (so' : Option Addr) (sc' : Nat), lv = .slice so' (D.length + k) sc' ∧ iv = .int .i64 (k : Int) ∧ k ≤ 1 ∧ Hid (w3.ownsRow w.heap.size 3 1 (.slice so' (D.length + k) sc') (D.length + k) (nVals .i64 (D ++ List.replicate k s))) ∧ Hid (InfIs w3 fb rb g B p1 most sv sd lt ds) ∧ Hid (DecIs w3 db sb T) ∧ Fr (oneB rb) w w3) (fun _ iv _ => 1 - (intOf iv).toNat)
          case atStart => exact ⟨0, so, sc, rfl, rfl, Nat.zero_le _, (by have hh := HO2.out; unfold OwnN at hh; show World.ownsRow _ _ _ _ _ _ _; simpa using hh), HI2, HD2, hG2⟩
          case round =>
            clear HO2 HI2 HD2
            obtain ⟨k, so', sc', rfl, rfl, hk, HO3, HI3, HD3, hF3⟩ := hrel
            by_cases hkt : k < 1
            · have hkI : (k : Int) < (1 : Int) := by omega
              have hsz3 := hF3.size
              go_wp2_with (at_builtin; refine wpList_append_own _ rfl _ _ 73 rfl w.heap.size 3 i0 (.int .i64 0) 1 8 Tryd.underlying73 hi hz0 hz1 hz2 rfl (by decide) _ (D.length + k) (nVals .i64 (D ++ List.replicate k s)) rfl (HO3.out.alloc _) ⟨wr.heap.size, 0, none⟩ 1 1 [.int .i64 (s : Int)] rfl rfl (one_srcN wr _ _) (by intro u hu; simp at hu; subst hu; rfl) (by unfold maxLen; omega) (by omega) (by simp; omega) ?_)
              intro v' w4 hown hg _
              have hF4 : Fr (fun b => (Value.slice so' (D.length + k) sc').ownBlock = some b) wr w4 := ((Fr.refl _ wr).alloc (.cells #[.int .i64 (s : Int)] 3 (0, 0))).grown hg (fun k hk => Or.inl hk)
              have hG4 : Fr (oneB rb) w w4 := hF3.then hF4 (fun i hi => Or.inr (own_blk HO3.out i hi).1)
              have HI4 : Hid (InfIs w4 fb rb g B p1 most sv sd lt ds) := HI3.out.app HO3.out hfb hF4
              have HD4 : Hid (DecIs w4 db sb T) := HD3.out.keep hF4 (fun e => by have := (own_blk HO3.out _ e).1; omega) (fun e => by have := (own_blk HO3.out _ e).1; omega)
              rw [nVals_app, List.append_assoc, ← List.replicate_succ'] at hown
              obtain ⟨so4, sc4, rfl⟩ := own_formN hown
              have HO4 : Hid (w4.ownsRow w.heap.size 3 1 (.slice so4 (D.length + (k + 1)) sc4) (D.length + (k + 1)) (nVals .i64 (D ++ List.replicate (k + 1) s))) := hown
              clear HO3 HI3 HD3 hown hg
              go_wp2_with fail
              go_roundw
              case rel => exact ⟨k + 1, so4, sc4, by first | rfl | (congr 1), by go_num, by omega, HO4, HI4, HD4, hG4⟩
              case measure => simp [intOf] <;> omega
            · have hkk : k = 1 := by omega
              have hkI : ¬ ((k : Int) < (1 : Int)) := by omega
              have HO5 : Hid (OwnN w.heap.size wr so' sc' (D ++ List.replicate 1 s)) := by
                rw [← hkk]
                show World.ownsRow _ _ _ _ _ _ _
                have := HO3.out
                simpa using this
              go_wp2_with fail
              go_roundw
              case rel => exact ⟨D ++ List.replicate 1 s, so', sc', p1, f, by simp [hkk], by simp; omega, by simp; omega, HPP.out, HO5.out, HI3.out, HD3.out, hF3, HNEXT⟩
              case measure => simp <;> omega
        · rw [if_neg h16] at HL2
          have C2 := fun w2 (hI : InfIs w2 fb rb g B p1 most sv sd lt ds) (hO : OwnN w.heap.size w2 so sc D) => repetition_any fb rb g p1 s w.heap.size D so sc B sd most sv lt ds w2 hI hO (by omega) (by omega) hB hple hl
          have h16I : (16 : Int) ≤ (s : Int) := by omega
          have hrt : (repA B p1 s D).2.2.1 = 0 → (repA B p1 s D).2.2.2 ≤ 8 * B.length ∧ 1 ≤ (repA B p1 s D).2.1 ∧ (repA B p1 s D).2.1 ≤ 200 := repA_le B p1 s D hple
          obtain ⟨⟨x, tm, e2, p2⟩, hrp⟩ : ∃ y, repA B p1 s D = y := ⟨_, rfl⟩
          rw [hrp] at HL2 hrt
          simp only [hrp] at C2
          simp only at HL2 hrt
          have HC2 : Hid (∀ w2, InfIs w2 fb rb g B p1 most sv sd lt ds → OwnN w.heap.size w2 so sc D → Calls Tryd.prog 79 #[.pointer (some ⟨fb, 0, none⟩), .int .i64 (s : Int), .slice so D.length sc] w2 fun e w' => e = .returned (.tuple #[.int .i64 (x : Int), .int .i64 (tm : Int), .int .i64 (e2 : Int)]) ∧ InfIs w' fb rb g B p2 most sv sd lt ds ∧ Fr (oneB rb) w2 w') := C2
          clear hrp C2
          by_cases he2 : e2 = 0
          · rw [if_neg (fun hh => hh he2)] at HL2
            obtain ⟨hp2, htm1, htm2⟩ := hrt he2
            subst he2
            by_cases hov : count < D.length + tm
            · rw [if_pos hov] at HL2
              have HRR : Hid (R = (30, p, D)) := HL2.symm
              have hovI : (count : Int) - (D.length : Int) < (tm : Int) := by omega
              clear HL2 hrt
              go_wp2_with (first
                | (go_at_call 76; refine C1.mono ?_; rintro e w2 ⟨rfl, hI2, hF2⟩; have HI2 : InfIs w2 fb rb g B p1 most sv sd lt ds := (by first | exact hI2 rfl | exact hI2 trivial | exact hI2); have HO2 : OwnN w.heap.size w2 so sc D := HO.out.keep hF2 (fun k hk => by have e' : k = rb := hk; omega))
                | (go_at_call 79; refine (HC2.out _ HI2 HO2).mono ?_; rintro e w3 ⟨rfl, hI3, hF3⟩))
              go_ret2
              rw [HRR.out]
              exact ⟨Or.inl ⟨by simp, rfl⟩, (hF.trans hF2).trans hF3⟩
            · rw [if_neg hov] at HL2
              have HNEXT : Hid (lenA T B count (f + 1) p2 (D ++ List.replicate tm x) = R) := HL2
              have HPP : Hid (p2 ≤ 8 * B.length) := hp2
              have hovI : (tm : Int) ≤ (count : Int) - (D.length : Int) := by omega
              clear HL2 hrt
              go_upto_region 13 with (first
                | (go_at_call 76; refine C1.mono ?_; rintro e w2 ⟨rfl, hI2, hF2⟩; have HI2 : InfIs w2 fb rb g B p1 most sv sd lt ds := (by first | exact hI2 rfl | exact hI2 trivial | exact hI2); have HO2' : OwnN w.heap.size w2 so sc D := HO.out.keep hF2 (fun k hk => by have e' : k = rb := hk; omega))
                | (go_at_call 79; refine (HC2.out _ HI2 HO2').mono ?_; rintro e w3 ⟨rfl, hI3, hF3⟩))
              have hG2 : Fr (oneB rb) w w3 := (hF.trans hF2).trans hF3
              have HO2 : Hid (OwnN w.heap.size w3 so sc D) := HO2'.keep hF3 (fun k hk => by have e' : k = rb := hk; omega)
              have HD2 : Hid (DecIs w3 db sb T) := (HDec.out.keep hF2 h1 h2).keep hF3 h1 h2
              clear HI2 HO2' hI2
              have HI2 : Hid (InfIs w3 fb rb g B p2 most sv sd lt ds) := hI3
              clear hI3 HO HDec C1 HC2
              rename World => w3'
              go_wp2_with fail
              go_loopw [8, 49] (fun lv iv w3 => ∃ (k : Nat) (so' : Option Addr) (sc' : Nat), lv = .slice so' (D.length + k) sc' ∧ iv = .int .i64 (k : Int) ∧ k ≤ tm ∧ Hid (w3.ownsRow w.heap.size 3 1 (.slice so' (D.length + k) sc') (D.length + k) (nVals .i64 (D ++ List.replicate k x))) ∧ Hid (InfIs w3 fb rb g B p2 most sv sd lt ds) ∧ Hid (DecIs w3 db sb T) ∧ Fr (oneB rb) w w3) (fun _ iv _ => tm - (intOf iv).toNat)
              case atStart => exact ⟨0, so, sc, rfl, rfl, Nat.zero_le _, (by have hh := HO2.out; unfold OwnN at hh; show World.ownsRow _ _ _ _ _ _ _; simpa using hh), HI2, HD2, hG2⟩
              case round =>
                clear HO2 HI2 HD2
                obtain ⟨k, so', sc', rfl, rfl, hk, HO3, HI3, HD3, hF3⟩ := hrel
                by_cases hkt : k < tm
                · have hkI : (k : Int) < (tm : Int) := by omega
                  have hsz3 := hF3.size
                  go_wp2_with (at_builtin; refine wpList_append_own _ rfl _ _ 73 rfl w.heap.size 3 i0 (.int .i64 0) 1 8 Tryd.underlying73 hi hz0 hz1 hz2 rfl (by decide) _ (D.length + k) (nVals .i64 (D ++ List.replicate k x)) rfl (HO3.out.alloc _) ⟨wr.heap.size, 0, none⟩ 1 1 [.int .i64 (x : Int)] rfl rfl (one_srcN wr _ _) (by intro u hu; simp at hu; subst hu; rfl) (by unfold maxLen; omega) (by omega) (by simp; omega) ?_)
                  intro v' w4 hown hg _
                  have hF4 : Fr (fun b => (Value.slice so' (D.length + k) sc').ownBlock = some b) wr w4 := ((Fr.refl _ wr).alloc (.cells #[.int .i64 (x : Int)] 3 (0, 0))).grown hg (fun k hk => Or.inl hk)
                  have hG4 : Fr (oneB rb) w w4 := hF3.then hF4 (fun i hi => Or.inr (own_blk HO3.out i hi).1)
                  have HI4 : Hid (InfIs w4 fb rb g B p2 most sv sd lt ds) := HI3.out.app HO3.out hfb hF4
                  have HD4 : Hid (DecIs w4 db sb T) := HD3.out.keep hF4 (fun e => by have := (own_blk HO3.out _ e).1; omega) (fun e => by have := (own_blk HO3.out _ e).1; omega)
                  rw [nVals_app, List.append_assoc, ← List.replicate_succ'] at hown
                  obtain ⟨so4, sc4, rfl⟩ := own_formN hown
                  have HO4 : Hid (w4.ownsRow w.heap.size 3 1 (.slice so4 (D.length + (k + 1)) sc4) (D.length + (k + 1)) (nVals .i64 (D ++ List.replicate (k + 1) x))) := hown
                  clear HO3 HI3 HD3 hown hg
                  go_wp2_with fail
                  go_roundw
                  case rel => exact ⟨k + 1, so4, sc4, by first | rfl | (congr 1), by go_num, by omega, HO4, HI4, HD4, hG4⟩
                  case measure => simp [intOf] <;> omega
                · have hkk : k = tm := by omega
                  have hkI : ¬ ((k : Int) < (tm : Int)) := by omega
                  have HO5 : Hid (OwnN w.heap.size wr so' sc' (D ++ List.replicate tm x)) := by
                    rw [← hkk]
                    show World.ownsRow _ _ _ _ _ _ _
                    have := HO3.out
                    simpa using this
                  go_wp2_with fail
                  go_roundw
                  case rel => exact ⟨D ++ List.replicate tm x, so', sc', p2, f, by simp [hkk], by simp; omega, by simp; omega, HPP.out, HO5.out, HI3.out, HD3.out, hF3, HNEXT⟩
                  case measure => simp <;> omega
          · rw [if_pos he2] at HL2
            have HRR : Hid (R = (e2, p, D)) := HL2.symm
            have he2I : ((e2 : Int) == 0) = false := by simp; omega
            have he2J : ((e2 : Int) != 0) = true := by simp; omega
            clear HL2 hrt
            go_wp2_with (first
              | (go_at_call 76; refine C1.mono ?_; rintro e w2 ⟨rfl, hI2, hF2⟩; have HI2 : InfIs w2 fb rb g B p1 most sv sd lt ds := (by first | exact hI2 rfl | exact hI2 trivial | exact hI2); have HO2 : OwnN w.heap.size w2 so sc D := HO.out.keep hF2 (fun k hk => by have e' : k = rb := hk; omega))
              | (go_at_call 79; refine (HC2.out _ HI2 HO2).mono ?_; rintro e w3 ⟨rfl, hI3, hF3⟩))
            go_ret2
            rw [HRR.out]
            exact ⟨Or.inl ⟨he2, rfl⟩, (hF.trans hF2).trans hF3⟩
      · rw [if_pos he] at HL2
        obtain ⟨⟨s, e1, p1⟩, hsy⟩ : ∃ y, symA T B p = y := ⟨_, rfl⟩
        rw [hsy] at HL2 C1 he
        simp only at HL2 C1 he
        have HRR : Hid (R = (e1, p, D)) := HL2.symm
        have heI : ((e1 : Int) == 0) = false := by simp; omega
        have heJ : ((e1 : Int) != 0) = true := by simp; omega
        clear hsy HL HL2 hO hI hDec
        go_wp2_with (go_at_call 76; refine C1.mono ?_; rintro e w2 ⟨rfl, hI2, hF2⟩)
        go_ret2
        rw [HRR.out]
        exact ⟨Or.inl ⟨he, rfl⟩, hF.trans hF2⟩
#print axioms ilengths_any
end Go.Proofs.YthgnhcdodfildaaDoor
/- codeOfLengths: its contract. -/
namespace Go.Proofs.YthgnhcdodfildaaDoor
open Go.RowKit Go.Shelf
attribute [local go_sem ↓] Go.wp_at_zero Go.wp_at_succ

/-- The order in which the lengths of the code of lengths come. -/
def ordr (k : Nat) : Nat := [16, 17, 18, 0, 8, 7, 9, 6, 10, 5, 11, 4, 12, 3, 13, 2, 14, 1, 15].getD k 0
theorem ordr_lt (k : Nat) (h : k < 19) : ordr k < 19 := by
  have : ∀ k, k < 19 → ordr k < 19 := by decide
  exact this k h
/-- The block of that table. -/
abbrev toldB : Nat := 0
/-- The table reads as it is laid. -/
def Told (w : World) : Prop := toldB < w.heap.size ∧ ∀ i, i < 19 → w.cell? ⟨toldB, i, none⟩ = some (.int .i64 ((ordr i : Nat) : Int))
theorem Told.keep {S : Nat → Prop} {w w' : World} (h : Told w) (hF : Fr S w w') (hs : ¬ S toldB) : Told w' := ⟨Nat.lt_of_lt_of_le h.1 hF.size, fun i hi => (hF.cell h.1 hs).trans (h.2 i hi)⟩
/-- The lengths of the code of lengths, of which k have come. -/
def colL (B : List Nat) (p : Nat) : Nat → List Nat
  | 0 => List.replicate 19 0
  | k + 1 => (colL B p k).set (ordr k) (numAt B (p + 3 * k) 3)
theorem colL_len (B : List Nat) (p k : Nat) : (colL B p k).length = 19 := by
  induction k with
  | zero => simp [colL]
  | succ k ih => simp [colL, ih]
set_option maxRecDepth 100000 in
set_option maxHeartbeats 4000000 in
theorem codeOf_any (fb rb g p0 told : Nat) (B sd : List Nat) (most : Int) (sv : Value) (lt ds : Option Addr) (w : World) (h : InfIs w fb rb g B p0 most sv sd lt ds) (hTo : Told w) (hrT : rb ≠ toldB) (hB : ∀ x ∈ B, x < 256) (hp : p0 ≤ 8 * B.length) (hl : B.length ≤ 140737488355328) (ht : told ≤ 19) :
    Calls Tryd.prog 55 #[.pointer (some ⟨fb, 0, none⟩), .int .i64 (told : Int)] w fun e w' =>
      ((8 * B.length < p0 + 3 * told ∧ e = .returned (.tuple #[.pointer none, .int .i64 33])) ∨
       (p0 + 3 * told ≤ 8 * B.length ∧ InfIs w' fb rb g B (p0 + 3 * told) most sv sd lt ds ∧ ((chk (up (colL B p0 told)) ≠ 0 ∧ e = .returned (.tuple #[.pointer none, .int .i64 31])) ∨
         (chk (up (colL B p0 told)) = 0 ∧ ∃ db sb, e = .returned (.tuple #[.pointer (some ⟨db, 0, none⟩), .int .i64 0]) ∧ w.heap.size ≤ db ∧ w.heap.size ≤ sb ∧ DecIs w' db sb (colL B p0 told))))) ∧ Fr (oneB rb) w w' := by
  obtain ⟨i0, hi, hz0, hz1, hz2⟩ := info_parts info64N
  have hfb : fb < w.heap.size := lt_of_block h.at_
  have hrb : rb < w.heap.size := by have := h.rlt; omega
  have HI : Hid _ := h
  have HT : Hid (Told w) := hTo
  clear h hTo
  go_enter Tryd.func55, Tryd.ntmps55
  go_wp2_with (at_make; refine wpList_make_full _ rfl _ _ 73 rfl w.heap.size 3 i0 (.int .i64 0) 1 Tryd.underlying73 hi hz0 hz1 .i64 .i64 19 19 19 rfl rfl rfl rfl (by rw [hz2]; decide) (by decide) (Nat.le_refl _) ?_)
  intro w1 hown1 hg1
  have hF1 : Fr noB w w1 := (Fr.refl noB w).grown hg1 (by simp)
  have HR : Hid (RowN w1 w.heap.size 3 .i64 (colL B p0 0)) := made_nums hown1
  obtain ⟨c, hcg⟩ : ∃ c, w.heap.size = c := ⟨_, rfl⟩
  have HG : Hid (w.heap.size = c) := hcg
  rw [hcg] at HR ⊢
  have hcl : c < w1.heap.size := lt_of_block HR.out
  clear hown1 hg1 hcg
  go_wp2_with fail
  go_loopw [14] (fun kv wr => ∃ k : Nat, k ≤ told ∧ kv = .int .i64 (k : Int) ∧ p0 + 3 * k ≤ 8 * B.length ∧ RowN wr c 3 .i64 (colL B p0 k) ∧ InfIs wr fb rb g B (p0 + 3 * k) most sv sd lt ds ∧ Told wr ∧ Fr (oneB rb) w wr) (fun kv _ => told - (intOf kv).toNat)
  case atStart => exact ⟨0, Nat.zero_le _, rfl, by omega, HR.out, HI.out.keep hF1 id id id (fun _ _ _ _ h => h), HT.out.keep hF1 id, hF1.weak⟩
  case round =>
    clear HR hF1 hcl
    obtain ⟨k, hk, rfl, hpk, hrow, hI, hTo, hF⟩ := hrel
    by_cases hlt : k < told
    · have C1 := ibits_any fb rb g (p0 + 3 * k) 3 B sd most sv lt ds wr hI hB hpk hl (by decide)
      have hkI : (k : Int) < (told : Int) := by omega
      by_cases hfit : p0 + 3 * k + 3 ≤ 8 * B.length
      · have hb : bitA B (p0 + 3 * k) 3 = (numAt B (p0 + 3 * k) 3, 0, p0 + 3 * k + 3) := by unfold bitA; rw [if_pos hfit]
        rw [hb] at C1
        obtain ⟨x, hx⟩ : ∃ x, numAt B (p0 + 3 * k) 3 = x := ⟨_, rfl⟩
        rw [hx] at C1
        have hok := ordr_lt k (by omega)
        have HSET : Hid (∀ w', RowN w' c 3 .i64 (colL B p0 k) → RowN (w'.setCell ⟨c, ordr k, none⟩ (.int .i64 (x : Int))) c 3 .i64 (colL B p0 (k + 1))) := fun w' h' => by
          show RowN _ c _ _ ((colL B p0 k).set (ordr k) (numAt B (p0 + 3 * k) 3))
          rw [hx]
          exact h'.set (ordr k) x
        have HCELL : Hid (∀ w', RowN w' c 3 .i64 (colL B p0 k) → ∃ v, w'.cell? ⟨c, ordr k, none⟩ = some v) := fun w' h' => ⟨_, h'.cell (ordr k) (by rw [colL_len]; exact hok)⟩
        have HROW : Hid (RowN wr c 3 .i64 (colL B p0 k)) := hrow
        have HTO : Hid (Told wr) := hTo
        have hcb : c < wr.heap.size := lt_of_block hrow
        clear hb hx hI hrow hTo
        go_wp2_with (go_at_call 35; refine C1.mono ?_; rintro e w2 ⟨rfl, hI2, hF2⟩; have hR2 : RowN w2 c 3 .i64 (colL B p0 k) := HROW.out.keep hF2 (fun e => by have e' : c = rb := e; have := HG.out; omega); have hT2 := HTO.out.keep hF2 (fun e => hrT e.symm); have ht0 := hT2.2 k (by omega); obtain ⟨y, hy⟩ := HCELL.out _ hR2; have hfr := freeOf (ordr k) hR2)
        have hSC : Fr (oneB c) w2 (w2.setCell ⟨c, ordr k, none⟩ (.int .i64 (x : Int))) := (Fr.refl _ w2).setOne (ordr k) _
        have hcw := HG.out
        have hI3 : InfIs (w2.setCell ⟨c, ordr k, none⟩ (.int .i64 (x : Int))) fb rb g B (p0 + 3 * k + 3) most sv sd lt ds := hI2.keep hSC (fun e => by have e' : fb = c := e; omega) (fun e => by have e' : rb = c := e; omega) (fun e => by have e' : g = c := e; have := hI2.glt; omega) (fun j cur _ hj e => by
          have e' : j = c := e
          rw [e'] at hj
          have hR2' : w2.heap[c]? = some (.cells (nVals .i64 (colL B p0 k)).toArray 3 (0, 0)) := hR2
          rw [hj] at hR2'
          cases hR2')
        have hT3 := hT2.keep hSC (fun e => by have e' : toldB = c := e; have := HT.out.1; omega)
        refine ⟨⟨k + 1, by omega, by go_num, by omega, HSET.out _ hR2, ?_, hT3, (hF.trans hF2).setCell _ (Or.inr (by show w.heap.size ≤ c; omega)) _⟩, by simp [intOf] <;> omega⟩
        rw [show p0 + 3 * (k + 1) = p0 + 3 * k + 3 by omega]
        exact hI3
      · have hb : bitA B (p0 + 3 * k) 3 = (0, 33, p0 + 3 * k) := by unfold bitA; rw [if_neg hfit]
        rw [hb] at C1
        clear hb hI hrow hTo
        go_wp2_with (go_at_call 35; refine C1.mono ?_; rintro e w2 ⟨rfl, hI2, hF2⟩)
        go_ret2
        exact ⟨Or.inl ⟨by omega, rfl⟩, hF.trans hF2⟩
    · obtain rfl : k = told := by omega
      have hns : Ns .i64 wr (.slice (some ⟨c, 0, none⟩) 19 19) (up (colL B p0 k)) := by
        have := hrow.ns (by rw [colL_len]; decide)
        rw [colL_len] at this
        exact this
      have hcw := HG.out
      have HI2 : Hid (InfIs wr fb rb g B (p0 + 3 * k) most sv sd lt ds) := hI
      have hsz := hF.size
      by_cases hck : chk (up (colL B p0 k)) = 0
      · obtain ⟨M, hM, hMc⟩ := code_of _ hck
        have hMe : M = colL B p0 k := by
          have := congrArg (List.map Int.toNat) hM
          rw [up_toNat, up_toNat] at this
          exact this.symm
        subst hMe
        have C1 := newDec_good (.slice (some ⟨c, 0, none⟩) 19 19) (colL B p0 k) wr hns hMc
        have HCK : Hid (chk (up (colL B p0 k)) = 0) := hck
        clear hrow hI hTo hns hM hMc hck
        go_wp2_with (go_at_call 75; refine C1.mono ?_; rintro e w2 ⟨db, sb, rfl, q1, q2, q3, q4, hF2⟩)
        go_ret2
        exact ⟨Or.inr ⟨hpk, HI2.out.keep hF2 id id id (fun _ _ _ _ h => h), Or.inr ⟨HCK.out, db, sb, rfl, by omega, by omega, q4⟩⟩, hF.trans hF2.weak⟩
      · have C1 := newDec_bad (.slice (some ⟨c, 0, none⟩) 19 19) (up (colL B p0 k)) wr hns hck
        have HCK : Hid (chk (up (colL B p0 k)) ≠ 0) := hck
        have hb2 : (chk (up (colL B p0 k)) == 0) = false := by simpa using hck
        have hb3 : (chk (up (colL B p0 k)) != 0) = true := by simpa using hck
        obtain ⟨ck, hce⟩ : ∃ ck, chk (up (colL B p0 k)) = ck := ⟨_, rfl⟩
        rw [hce] at C1 hb2 hb3
        clear hrow hI hTo hns hck hce
        go_wp2_with (go_at_call 75; refine C1.mono ?_; rintro e w2 ⟨rfl, hF2⟩)
        go_ret2
        exact ⟨Or.inr ⟨hpk, HI2.out.keep hF2 id id id (fun _ _ _ _ h => h), Or.inl ⟨HCK.out, rfl⟩⟩, hF.trans hF2.weak⟩
#print axioms codeOf_any
end Go.Proofs.YthgnhcdodfildaaDoor
/- dynamic: its contract. -/
namespace Go.Proofs.YthgnhcdodfildaaDoor
open Go.RowKit Go.Shelf
attribute [local go_sem ↓] Go.wp_at_zero Go.wp_at_succ

theorem repA_ge (B : List Nat) (p s : Nat) (D : List Nat) : p ≤ (repA B p s D).2.2.2 := by
  unfold repA
  split
  · exact Nat.le_refl _
  · exact bitA_ge B p _
theorem lenA_ok (T B : List Nat) (count : Nat) : ∀ (f p : Nat) (D : List Nat), D.length ≤ count → p ≤ 8 * B.length → (lenA T B count f p D).1 = 0 → (lenA T B count f p D).2.2.length = count ∧ p ≤ (lenA T B count f p D).2.1 ∧ (lenA T B count f p D).2.1 ≤ 8 * B.length := by
  intro f
  induction f with
  | zero => intro p D _ _ h; simp [lenA] at h
  | succ f ih =>
    intro p D hD hp h
    unfold lenA at h ⊢
    by_cases c1 : count ≤ D.length
    · rw [if_pos c1]
      exact ⟨by simp only; omega, Nat.le_refl _, hp⟩
    · rw [if_neg c1] at h ⊢
      by_cases c2 : (symA T B p).2.1 ≠ 0
      · rw [if_pos c2] at h
        exact absurd h c2
      · rw [if_neg c2] at h ⊢
        have c2' : (symA T B p).2.1 = 0 := Classical.byContradiction c2
        have s1 := symA_le T B p c2'
        have s2 := symA_lt T B p c2'
        by_cases c3 : (symA T B p).1 < 16
        · rw [if_pos c3] at h ⊢
          have := ih _ _ (by simp; omega) s1 h
          exact ⟨this.1, by omega, this.2.2⟩
        · rw [if_neg c3] at h ⊢
          by_cases c4 : (repA B (symA T B p).2.2 (symA T B p).1 D).2.2.1 ≠ 0
          · rw [if_pos c4] at h
            exact absurd h c4
          · rw [if_neg c4] at h ⊢
            have c4' := Classical.byContradiction c4
            have r1 := repA_le B (symA T B p).2.2 (symA T B p).1 D s1 c4'
            have r2 := repA_ge B (symA T B p).2.2 (symA T B p).1 D
            by_cases c5 : count < D.length + (repA B (symA T B p).2.2 (symA T B p).1 D).2.1
            · rw [if_pos c5] at h
              simp at h
            · rw [if_neg c5] at h ⊢
              have := ih _ _ (by simp; omega) r1.1 h
              exact ⟨this.1, by omega, this.2.2⟩
/-- A dynamic block behind its kind: the error, the place behind, what was said. -/
def dynA (B : List Nat) (most : Int) (F p : Nat) (sd : List Nat) : Nat × Nat × List Nat :=
  if 8 * B.length < p + 14 then (33, p, sd)
  else if 286 < numAt B p 14 % 32 + 257 ∨ 30 < numAt B p 14 / 32 % 32 + 1 then (30, p, sd)
  else if 8 * B.length < p + 14 + 3 * (numAt B p 14 / 1024 + 4) then (33, p, sd)
  else if chk (up (colL B (p + 14) (numAt B p 14 / 1024 + 4))) ≠ 0 then (31, p, sd)
  else if (lenA (colL B (p + 14) (numAt B p 14 / 1024 + 4)) B (numAt B p 14 % 32 + 257 + (numAt B p 14 / 32 % 32 + 1)) (numAt B p 14 % 32 + 257 + (numAt B p 14 / 32 % 32 + 1) + 1) (p + 14 + 3 * (numAt B p 14 / 1024 + 4)) []).1 ≠ 0 then ((lenA (colL B (p + 14) (numAt B p 14 / 1024 + 4)) B (numAt B p 14 % 32 + 257 + (numAt B p 14 / 32 % 32 + 1)) (numAt B p 14 % 32 + 257 + (numAt B p 14 / 32 % 32 + 1) + 1) (p + 14 + 3 * (numAt B p 14 / 1024 + 4)) []).1, p, sd)
  else if (lenA (colL B (p + 14) (numAt B p 14 / 1024 + 4)) B (numAt B p 14 % 32 + 257 + (numAt B p 14 / 32 % 32 + 1)) (numAt B p 14 % 32 + 257 + (numAt B p 14 / 32 % 32 + 1) + 1) (p + 14 + 3 * (numAt B p 14 / 1024 + 4)) []).2.2.getD 256 0 = 0 then (30, p, sd)
  else if chk (up ((lenA (colL B (p + 14) (numAt B p 14 / 1024 + 4)) B (numAt B p 14 % 32 + 257 + (numAt B p 14 / 32 % 32 + 1)) (numAt B p 14 % 32 + 257 + (numAt B p 14 / 32 % 32 + 1) + 1) (p + 14 + 3 * (numAt B p 14 / 1024 + 4)) []).2.2.take (numAt B p 14 % 32 + 257))) ≠ 0 ∨ chk (up ((lenA (colL B (p + 14) (numAt B p 14 / 1024 + 4)) B (numAt B p 14 % 32 + 257 + (numAt B p 14 / 32 % 32 + 1)) (numAt B p 14 % 32 + 257 + (numAt B p 14 / 32 % 32 + 1) + 1) (p + 14 + 3 * (numAt B p 14 / 1024 + 4)) []).2.2.drop (numAt B p 14 % 32 + 257))) ≠ 0 then (31, p, sd)
  else symsA ((lenA (colL B (p + 14) (numAt B p 14 / 1024 + 4)) B (numAt B p 14 % 32 + 257 + (numAt B p 14 / 32 % 32 + 1)) (numAt B p 14 % 32 + 257 + (numAt B p 14 / 32 % 32 + 1) + 1) (p + 14 + 3 * (numAt B p 14 / 1024 + 4)) []).2.2.take (numAt B p 14 % 32 + 257)) ((lenA (colL B (p + 14) (numAt B p 14 / 1024 + 4)) B (numAt B p 14 % 32 + 257 + (numAt B p 14 / 32 % 32 + 1)) (numAt B p 14 % 32 + 257 + (numAt B p 14 / 32 % 32 + 1) + 1) (p + 14 + 3 * (numAt B p 14 / 1024 + 4)) []).2.2.drop (numAt B p 14 % 32 + 257)) B most F (lenA (colL B (p + 14) (numAt B p 14 / 1024 + 4)) B (numAt B p 14 % 32 + 257 + (numAt B p 14 / 32 % 32 + 1)) (numAt B p 14 % 32 + 257 + (numAt B p 14 / 32 % 32 + 1) + 1) (p + 14 + 3 * (numAt B p 14 / 1024 + 4)) []).2.1 sd
#print axioms lenA_ok
end Go.Proofs.YthgnhcdodfildaaDoor
