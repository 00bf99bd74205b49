/- An argument as an array, in plain data; a row of values that is written in its middle. -/
import Derived.Test.YtpjbobbmldplbaaGreatDoorK14
import Derived.Test.YtpjbobbmldplbaaGreatDoorACop
import Derived.Test.YtpjbobbmldplbaaGreatDoorK16
import Derived.Deep.MidRow
namespace Go.Proofs.YtpjbobbmldplbaaGreatDoor
open Go.RowKit Ieee Go.Shelf
attribute [local go_sem] run_store_float

def nilV : Vv := ⟨0, 0, ⟨#[]⟩, false, 0⟩
/-- The values of an area of so many columns: those that are told, laid over the others. -/
def dnsF (c : Int) (P : List Pl) (L : List Vv) : List Vv := P.foldl (fun L p => L.set (p.r * c + p.c).toNat p.v) L
theorem dnsF_len (c : Int) (P : List Pl) (L : List Vv) : (dnsF c P L).length = L.length := by
  induction P generalizing L with
  | nil => rfl
  | cons p P ih =>
    show (dnsF c P (L.set (p.r * c + p.c).toNat p.v)).length = _
    rw [ih, List.length_set]
theorem dnsF_snoc (c : Int) (P : List Pl) (L : List Vv) (i : Nat) (hi : i < P.length) : dnsF c (P.take (i + 1)) L = (dnsF c (P.take i) L).set (P[i].r * c + P[i].c).toNat P[i].v := by
  rw [List.take_succ_eq_append_getElem hi]
  simp only [dnsF, List.foldl_append, List.foldl_cons, List.foldl_nil]
theorem dnsF_ok (c : Int) (P : List Pl) (L : List Vv) (hP : ∀ p ∈ P, Vok p.v) (hL : ∀ v ∈ L, Vok v) : ∀ v ∈ dnsF c P L, Vok v := by
  induction P generalizing L with
  | nil => exact hL
  | cons p P ih =>
    refine ih _ (fun q hq => hP q (List.mem_cons_of_mem _ hq)) (fun v hv => ?_)
    rcases List.mem_or_eq_of_mem_set hv with h | h
    · exact hL v h
    · rw [h]; exact hP p (List.mem_cons_self ..)
theorem laid_all {r c : Int} {P : List Pl} : ∀ {nx : Int}, laidF r c nx P = true → ∀ (i : Nat) (hi : i < P.length), plOk r c P[i] = true := by
  induction P with
  | nil => intro nx _ i hi; simp at hi
  | cons p P ih =>
    intro nx h i hi
    simp only [laidF, Bool.and_eq_true] at h
    cases i with
    | zero => exact h.1.1
    | succ i =>
      simp only [List.getElem_cons_succ]
      exact ih h.2 i (by simpa using hi)
theorem arg_in {f : Vv → Int} {m : Bool} {r c : Int} {P : List Pl} (h : argF f m r c P = 0) (i : Nat) (hi : i < P.length) : 0 ≤ P[i].r ∧ P[i].r < r ∧ 0 ≤ P[i].c ∧ P[i].c < c := by
  unfold argF at h
  split at h
  · omega
  · split at h
    · omega
    · split at h
      · omega
      · rename_i h3
        have h4 := laid_all (by simpa using h3) i hi
        simp only [plOk, decide_eq_true_eq] at h4
        exact ⟨h4.1, h4.2.1, h4.2.2.1, h4.2.2.2.1⟩
theorem arg_num {f : Vv → Int} {m : Bool} {R C : Nat} {P : List Pl} (h : argF f m (R : Int) (C : Int) P = 0) (i : Nat) (hi : i < P.length) : ∃ a b : Nat, P[i].r = (a : Int) ∧ P[i].c = (b : Int) ∧ a < R ∧ b < C ∧ a * C + b < R * C := by
  obtain ⟨h1, h2, h3, h4⟩ := arg_in h i hi
  refine ⟨P[i].r.toNat, P[i].c.toNat, by omega, by omega, by omega, by omega, ?_⟩
  have := Nat.mul_le_mul_right C (show P[i].r.toNat + 1 ≤ R by omega)
  rw [Nat.add_mul, Nat.one_mul] at this
  omega
/-- A row of values in a block of its own, at its head. -/
structure RowV (W : World) (b : Nat) (L : List Vv) : Prop where
  r : ∀ q (h : q < L.length), W.rangeAt b (q * 5) (vC L[q])
  t : W.there b 0 (L.length * 5)
  lt : b < W.heap.size
theorem there_at {W : World} {b n : Nat} (h : W.there b 0 n) (o : Nat) (ho : o < n) : (W.cell? ⟨b, o, none⟩).isSome = true ∧ W.frozen? ⟨b, o, none⟩ = false := by
  have := h o ho
  rwa [Nat.zero_add] at this
theorem RowV.fr {S : Nat → Prop} {W W' : World} {b : Nat} {L : List Vv} (h : RowV W b L) (hF : Fr S W W') (hS : ¬ S b) : RowV W' b L := by
  refine ⟨fun q hq j v hv => (hF.cell (a := ⟨b, q * 5 + j, none⟩) h.lt hS).trans (h.r q hq j v hv), fun j hj => ?_, Nat.lt_of_lt_of_le h.lt hF.size⟩
  obtain ⟨h1, h2⟩ := h.t j hj
  refine ⟨by rw [hF.cell (a := ⟨b, 0 + j, none⟩) h.lt hS]; exact h1, ?_⟩
  rw [World.frozen?_of_block (w := W) (a := ⟨b, 0 + j, none⟩) (hF.block b h.lt hS)]
  exact h2
section
variable {W : World} {b : Nat} {L : List Vv} (h : RowV W b L)
include h
theorem RowV.at (q : Nat) (hq : q < L.length) : W.cell? ⟨b, q * 5, none⟩ = some (.int .i64 L[q].k) ∧ W.cell? ⟨b, q * 5 + 1, none⟩ = some (.float .f64 L[q].n) ∧ W.cell? ⟨b, q * 5 + 2, none⟩ = some (.string L[q].s) ∧ W.cell? ⟨b, q * 5 + 3, none⟩ = some (.bool L[q].y) ∧ W.cell? ⟨b, q * 5 + 4, none⟩ = some (.int .i64 L[q].e) :=
  ⟨h.r q hq 0 _ rfl, h.r q hq 1 _ rfl, h.r q hq 2 _ rfl, h.r q hq 3 _ rfl, h.r q hq 4 _ rfl⟩
theorem RowV.free (q : Nat) (hq : q < L.length) : W.frozen? ⟨b, q * 5, none⟩ = false ∧ W.frozen? ⟨b, q * 5 + 1, none⟩ = false ∧ W.frozen? ⟨b, q * 5 + 2, none⟩ = false ∧ W.frozen? ⟨b, q * 5 + 3, none⟩ = false ∧ W.frozen? ⟨b, q * 5 + 4, none⟩ = false :=
  ⟨(there_at h.t _ (by omega)).2, (there_at h.t _ (by omega)).2, (there_at h.t _ (by omega)).2, (there_at h.t _ (by omega)).2, (there_at h.t _ (by omega)).2⟩
theorem RowV.vs : VsAt W (some ⟨b, 0, none⟩) L := by
  refine Or.inr ⟨b, 0, rfl, h.lt, fun i hi => ?_⟩
  rw [Nat.zero_add]
  exact h.at i hi
theorem RowV.set (q : Nat) (hq : q < L.length) (v : Vv) : RowV (((((W.setCell ⟨b, q * 5, none⟩ (.int .i64 v.k)).setCell ⟨b, q * 5 + 1, none⟩ (.float .f64 v.n)).setCell ⟨b, q * 5 + 2, none⟩ (.string v.s)).setCell ⟨b, q * 5 + 3, none⟩ (.bool v.y)).setCell ⟨b, q * 5 + 4, none⟩ (.int .i64 v.e)) b (L.set q v) := by
  have e : ((((W.setCell ⟨b, q * 5, none⟩ (.int .i64 v.k)).setCell ⟨b, q * 5 + 1, none⟩ (.float .f64 v.n)).setCell ⟨b, q * 5 + 2, none⟩ (.string v.s)).setCell ⟨b, q * 5 + 3, none⟩ (.bool v.y)).setCell ⟨b, q * 5 + 4, none⟩ (.int .i64 v.e) = W.setCells b (q * 5) (vC v) := rfl
  rw [e]
  have ht : W.there b (q * 5) (vC v).length := fun j hj => by
    rw [vC_len] at hj
    exact there_at h.t _ (by omega)
  refine ⟨fun k hk => ?_, ?_, by rw [← e]; simpa [World.setCell] using h.lt⟩
  · rw [List.length_set] at hk
    by_cases hkq : k = q
    · subst hkq
      rw [List.getElem_set_self]
      exact World.rangeAt_setCells_same W b (k * 5) (vC v) ht
    · rw [List.getElem_set_ne (fun hh => hkq hh.symm)]
      exact World.rangeAt_setCells_apart (h.r k hk) b (q * 5) (vC v) (Or.inr (by rw [vC_len, vC_len]; omega))
  · rw [List.length_set]
    exact World.there_setCells h.t _ _ _
end
theorem fr5o {S : Nat → Prop} {w W : World} (h : Fr S w W) (B o : Nat) (hB : S B ∨ w.heap.size ≤ B) (a' b' c' d' e' : Value) :
    Fr S w (((((W.setCell ⟨B, o, none⟩ a').setCell ⟨B, o + 1, none⟩ b').setCell ⟨B, o + 2, none⟩ c').setCell ⟨B, o + 3, none⟩ d').setCell ⟨B, o + 4, none⟩ e') :=
  ((((h.setCell ⟨B, o, none⟩ hB a').setCell ⟨B, o + 1, none⟩ hB b').setCell ⟨B, o + 2, none⟩ hB c').setCell ⟨B, o + 3, none⟩ hB d').setCell ⟨B, o + 4, none⟩ hB e'
/-- What make lays: so many empty values. -/
theorem RowV.made {W : World} {base b n : Nat} {cap : Nat} (h : W.ownsRow base 37 5 (.slice (some ⟨b, 0, none⟩) n cap) n (madeCells #[.int .i64 0, .float .f64 0, .string ⟨#[]⟩, .bool false, .int .i64 0] (n * 5)).toList) : RowV W b (List.replicate n nilV) := by
  have hs := h
  obtain ⟨_, h2⟩ := h
  rcases h2 with ⟨h2, _⟩ | ⟨g, cp, cur, hv, hg, hh, hle, hmx, hcz, htk⟩
  · exact absurd h2 (by simp)
  injection hv with hv1 hv2 hv3
  injection hv1 with hv1
  injection hv1 with hv1
  subst hv1
  have hc := hs.cells (g := b) rfl
  refine ⟨fun q hq j v hv => ?_, fun j hj => ?_, lt_of_block hh⟩
  · have hq' : q < n := by simpa using hq
    have hj : j < 5 := (List.getElem?_eq_some_iff.1 hv).1
    have e : (List.replicate n nilV)[q] = nilV := by simp
    rw [e] at hv
    have k := hc (q * 5 + j) v (by
      rw [Array.getElem?_toList]
      simp only [madeCells, Array.getElem?_map]
      rw [Array.getElem?_range, if_pos (by omega)]
      simp only [Option.map_some]
      rw [← hv]
      have hm : (q * 5 + j) % 5 = j := by omega
      show some (#[Value.int .i64 0, .float .f64 0, .string ⟨#[]⟩, .bool false, .int .i64 0][(q * 5 + j) % 5]!) = _
      rw [hm]
      rcases j with _ | _ | _ | _ | _ | j
      · rfl
      · rfl
      · rfl
      · rfl
      · rfl
      · omega)
    rw [Addr.add_lit, Nat.zero_add] at k
    exact k
  · rw [List.length_replicate] at hj
    rw [Nat.zero_add]
    refine ⟨?_, freeOf j hh⟩
    have hj2 : j < cur.size := by rw [hcz]; exact Nat.lt_of_lt_of_le hj (Nat.mul_le_mul_right 5 hle)
    rw [cellOf (o := j) hh (Array.getElem?_eq_getElem hj2)]
    rfl
theorem aret2d {fn : Func} {p q : Tmp} (h : fn.results = #[.cell p 27, .tmp q]) (tmps : Array Value) (w : World) (g : Nat) {r c : Int} {ao : Option Addr} {n cap : Nat} {b : Value} (hp : tmps.getD p undef = .pointer (some ⟨g, 0, none⟩)) (hq : tmps.getD q undef = b) (hv : AAt w g r c ao n cap) :
    (results fn tmps).run Tryz.prog w = .ok (.tuple #[.agg #[.int .i64 r, .int .i64 c, .slice ao n cap], b]) w := by
  have hp' : tmps[p]?.getD undef = .pointer (some ⟨g, 0, none⟩) := by simpa using hp
  have hq' : tmps[q]?.getD undef = b := by simpa using hq
  simp [results, h, hp', hq', asAddr, run_loadVar_row w g 27 27 _ (0, 0) _ hv.o Tryz.underlying27 rfl info_arr]
theorem make_row (q : Nat) (hq : q ≤ 4096) : ∃ Zo : Obj, (∀ W : World, (Instr.makeSlice 25 (.int .i64 (q : Int)) (.int .i64 (q : Int))).run Tryz.prog W = .ok (.slice (some ⟨W.heap.size, 0, none⟩) q q) (W.alloc Zo)) ∧ ∀ W : World, RowV (W.alloc Zo) W.heap.size (List.replicate q nilV) := by
  obtain ⟨i0, hi, hz0, hz1, hz2⟩ := info_parts Tryz.infoV
  refine ⟨.cells (madeCells #[.int .i64 0, .float .f64 0, .string ⟨#[]⟩, .bool false, .int .i64 0] (q * 5)) 37 (0, 0), fun W => ?_, fun W => ?_⟩
  · have hr := run_make (P := Tryz.prog) W 25 37 i0 _ Tryz.underlying25 hi hz0 .i64 .i64 (q : Int) (q : Int) (by omega) (Int.le_refl _) (by rw [hz2]; omega) (by omega)
    rw [hz1] at hr
    simp only [Int.toNat_natCast] at hr
    exact hr
  · refine RowV.made (base := 0) (cap := q) (World.ownsRow_lit W _ q (Nat.zero_le _) ?_ (size_madeCells _ _))
    show q ≤ 9223372036854775807
    omega
/-- Where the rounds of Dense stand: the array that is filled lies at o, its row at b. -/
structure DnI (w1 : World) (b o R C q : Nat) (L : List Vv) (V : World) : Prop where
  a : AAt V o (R : Int) (C : Int) (some ⟨b, 0, none⟩) q q
  r : RowV V b L
  fr : Fr noB w1 V
theorem DnI.keep {w1 : World} {b o R C q : Nat} {L : List Vv} {V V' : World} (h : DnI w1 b o R C q L V) (hF : Fr noB V V') : DnI w1 b o R C q L V' := ⟨h.a.fr hF id, h.r.fr hF id, h.fr.trans hF⟩
theorem DnI.set {w1 : World} {b o R C q : Nat} {L : List Vv} {V : World} (h : DnI w1 b o R C q L V) (hbo : o ≠ b) (hb : w1.heap.size ≤ b) (m : Nat) (hm : m < L.length) (v : Vv) :
    DnI w1 b o R C q (L.set m v) (((((V.setCell ⟨b, m * 5, none⟩ (.int .i64 v.k)).setCell ⟨b, m * 5 + 1, none⟩ (.float .f64 v.n)).setCell ⟨b, m * 5 + 2, none⟩ (.string v.s)).setCell ⟨b, m * 5 + 3, none⟩ (.bool v.y)).setCell ⟨b, m * 5 + 4, none⟩ (.int .i64 v.e)) :=
  ⟨h.a.fr (fr5o (Fr.refl (oneB b) V) b (m * 5) (Or.inl rfl) _ _ _ _ _) hbo, h.r.set m hm v, fr5o h.fr b (m * 5) (Or.inr hb) _ _ _ _ _⟩
#print axioms RowV.made
#print axioms arg_num
end Go.Proofs.YtpjbobbmldplbaaGreatDoor
/- An array as an argument, in plain data; a row of told places. -/
namespace Go.Proofs.YtpjbobbmldplbaaGreatDoor
open Go.RowKit Ieee Go.Shelf

/-- The places of values that are not empty, from a number on. -/
def sprF (C : Nat) : Nat → List Vv → List Pl
  | _, [] => []
  | i, v :: L => if v.k = 0 then sprF C (i + 1) L else ⟨((i / C : Nat) : Int), ((i % C : Nat) : Int), v⟩ :: sprF C (i + 1) L
theorem sprF_snoc (C : Nat) (L : List Vv) (v : Vv) : ∀ i, sprF C i (L ++ [v]) = sprF C i L ++ (if v.k = 0 then [] else [⟨(((i + L.length) / C : Nat) : Int), (((i + L.length) % C : Nat) : Int), v⟩]) := by
  induction L with
  | nil => intro i; simp [sprF]
  | cons u L ih =>
    intro i
    have e : i + 1 + L.length = i + (L.length + 1) := by omega
    simp only [List.cons_append, sprF, List.length_cons]
    by_cases h : u.k = 0
    · rw [if_pos h, if_pos h, ih, e]
    · rw [if_neg h, if_neg h, ih, e]
      rfl
theorem sprF_take (C : Nat) (L : List Vv) (i : Nat) (hi : i < L.length) : sprF C 0 (L.take (i + 1)) = sprF C 0 (L.take i) ++ (if L[i].k = 0 then [] else [⟨((i / C : Nat) : Int), ((i % C : Nat) : Int), L[i]⟩]) := by
  rw [List.take_succ_eq_append_getElem hi, sprF_snoc, List.length_take, Nat.min_eq_left (Nat.le_of_lt hi), Nat.zero_add]
theorem sprF_len (C : Nat) (L : List Vv) : ∀ i, (sprF C i L).length ≤ L.length := by
  induction L with
  | nil => intro i; simp [sprF]
  | cons u L ih =>
    intro i
    simp only [sprF]
    split
    · have := ih (i + 1); simp only [List.length_cons]; omega
    · have := ih (i + 1); simp only [List.length_cons]; omega
theorem sprF_ok (C : Nat) (L : List Vv) (hL : ∀ v ∈ L, Vok v) : ∀ i, ∀ p ∈ sprF C i L, Vok p.v := by
  induction L with
  | nil => intro i p hp; simp [sprF] at hp
  | cons u L ih =>
    intro i p hp
    simp only [sprF] at hp
    split at hp
    · exact ih (fun v hv => hL v (List.mem_cons_of_mem _ hv)) (i + 1) p hp
    · rcases List.mem_cons.1 hp with rfl | hp
      · exact hL u (List.mem_cons_self ..)
      · exact ih (fun v hv => hL v (List.mem_cons_of_mem _ hv)) (i + 1) p hp
def psC (L : List Pl) : List Value := L.flatMap pC
@[simp] theorem pC_len (p : Pl) : (pC p).length = 7 := rfl
theorem psC_cons (p : Pl) (L : List Pl) : psC (p :: L) = pC p ++ psC L := rfl
theorem psC_app (A B : List Pl) : psC (A ++ B) = psC A ++ psC B := by simp [psC]
theorem psC_one (p : Pl) : psC [p] = pC p := by simp [psC]
@[simp] theorem psC_len (L : List Pl) : (psC L).length = L.length * 7 := by
  induction L with
  | nil => rfl
  | cons v L ih => rw [psC_cons, List.length_append, ih, pC_len, List.length_cons]; omega
theorem psC_get (L : List Pl) : ∀ (i : Nat) (h : i < L.length) (j : Nat), j < 7 → (psC L)[i * 7 + j]? = (pC L[i])[j]? := by
  induction L with
  | nil => intro i h; simp at h
  | cons v L ih =>
    intro i h j hj
    cases i with
    | zero =>
      rw [psC_cons, Nat.zero_mul, Nat.zero_add, List.getElem?_append_left (by simpa using hj)]
      rfl
    | succ i =>
      have e : (i + 1) * 7 + j = 7 + (i * 7 + j) := by omega
      rw [psC_cons, List.getElem?_append_right (by simp; omega), pC_len, e, Nat.add_sub_cancel_left, ih i (by simpa using h) j hj]
      rfl
theorem pC_oneCell (p : Pl) : ∀ u ∈ pC p, u.oneCell' = true := by
  intro u hu
  simp [pC] at hu
  rcases hu with rfl | rfl | rfl | rfl | rfl | rfl | rfl <;> rfl
theorem own_ps {base : Nat} {w : World} {v : Value} {t : TypeId} {L : List Pl} {n : Nat} (h : w.ownsRow base t 7 v n (psC L)) (hn : L.length = n) : ∃ so sc, v = .slice so n sc ∧ PsAt w so L := by
  have hs := h
  obtain ⟨_, h2⟩ := h
  rcases h2 with ⟨h2, h3⟩ | ⟨g, cap, cur, hv, hg, hh, _⟩
  · exact ⟨none, 0, by rw [h2, h3], Or.inl (List.eq_nil_of_length_eq_zero (by omega))⟩
  · refine ⟨some ⟨g, 0, none⟩, cap, hv, Or.inr ⟨g, 0, rfl, lt_of_block hh, fun i hi => ?_⟩⟩
    have hc := hs.cells (g := g) (by rw [hv]; rfl)
    have key : ∀ j, j < 7 → ∀ u, (pC L[i])[j]? = some u → w.cell? ⟨g, i * 7 + j, none⟩ = some u := by
      intro j hj u hu
      have hh := hc (i * 7 + j) u (by rw [psC_get L i hi j hj]; exact hu)
      rw [Addr.add_lit, Nat.zero_add] at hh
      exact hh
    refine ⟨?_, ?_, ?_, ?_, ?_, ?_, ?_⟩
    · have := key 0 (by decide) _ rfl
      simpa using this
    · have := key 1 (by decide) _ rfl
      simpa using this
    · have := key 2 (by decide) _ rfl
      simpa using this
    · have := key 3 (by decide) _ rfl
      simpa using this
    · have := key 4 (by decide) _ rfl
      simpa using this
    · have := key 5 (by decide) _ rfl
      simpa using this
    · have := key 6 (by decide) _ rfl
      simpa using this
theorem PsAt.keep1 {w w' : World} {g : Nat} {so : Option Addr} {L : List Pl} (h : PsAt w so L) (hF : Fr (oneB g) w w') (hn : ∀ b o, so = some ⟨b, o, none⟩ → b ≠ g) : PsAt w' so L := by
  rcases h with h | ⟨b, off, rfl, hb, hc⟩
  · exact Or.inl h
  · have hne : ¬ oneB g b := fun hh => hn b off rfl hh
    exact Or.inr ⟨b, off, rfl, Nat.lt_of_lt_of_le hb hF.size, fun i hi => ⟨(hF.cell (a := ⟨b, off + i * 7, none⟩) hb hne).trans (hc i hi).1, (hF.cell (a := ⟨b, off + i * 7 + 1, none⟩) hb hne).trans (hc i hi).2.1, (hF.cell (a := ⟨b, off + i * 7 + 2, none⟩) hb hne).trans (hc i hi).2.2.1, (hF.cell (a := ⟨b, off + i * 7 + 3, none⟩) hb hne).trans (hc i hi).2.2.2.1, (hF.cell (a := ⟨b, off + i * 7 + 4, none⟩) hb hne).trans (hc i hi).2.2.2.2.1, (hF.cell (a := ⟨b, off + i * 7 + 5, none⟩) hb hne).trans (hc i hi).2.2.2.2.2.1, (hF.cell (a := ⟨b, off + i * 7 + 6, none⟩) hb hne).trans (hc i hi).2.2.2.2.2.2⟩⟩
theorem Tryz.infoPl : (Tryz.prog.info? 48).map (fun i => (i.zero, i.size, i.bytes)) = some (some (.agg #[.int .i64 0, .int .i64 0, .int .i64 0, .float .f64 0, .string ⟨#[]⟩, .bool false, .int .i64 0]), 7, 64) := by kernel_rfl
#print axioms own_ps
#print axioms Tryz.infoPl
end Go.Proofs.YtpjbobbmldplbaaGreatDoor
