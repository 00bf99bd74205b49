/- What is written of the mimetype alone. -/
import Derived.Test.YtlhikoomghbnjaaGreatDoorZOut2
import Derived.Test.YtlhikoomghbnjaaGreatDoorZSum
import Derived.Test.YtlhikoomghbnjaaGreatDoorZName
import Derived.Test.YtlhikoomghbnjaaGreatDoorZEnt
import Derived.Test.YtlhikoomghbnjaaGreatDoorEq
namespace Go.Proofs.YtlhikoomghbnjaaGreatDoor
open Go.RowKit
attribute [local go_sem ↓] Go.wp_at_zero Go.wp_at_succ

/-- The mimetype's name and contents. -/
def mimeN : ByteArray := ⟨#[109, 105, 109, 101, 116, 121, 112, 101]⟩
def mimeB : List Nat := [97, 112, 112, 108, 105, 99, 97, 116, 105, 111, 110, 47, 118, 110, 100, 46, 111, 97, 115, 105, 115, 46, 111, 112, 101, 110, 100, 111, 99, 117, 109, 101, 110, 116, 46, 115, 112, 114, 101, 97, 100, 115, 104, 101, 101, 116]
/-- An entry that is the mimetype, in memory as a value: its bytes in block db. -/
def mimeV (db : Nat) : Value := .agg #[.string mimeN, .slice (some ⟨db, 0, none⟩) 46 46, .bool true]
/-- The mimetype's bytes lie in block db. -/
def MimeAt (w : World) (db : Nat) : Prop := w.heap[db]? = some (.cells (byteVals mimeB).toArray 5 (0, 0))
/-- A list of the mimetype alone, in block lb. -/
def OneAt (w : World) (lb db : Nat) : Prop := w.heap[lb]? = some (.cells #[.string mimeN, .slice (some ⟨db, 0, none⟩) 46 46, .bool true] 29 (0, 0))
/-- The mimetype is the first of the entries at lb. -/
def OneC (w : World) (lb db : Nat) : Prop := w.cell? ⟨lb, 0, none⟩ = some (.string mimeN) ∧ w.cell? ⟨lb, 1, none⟩ = some (.slice (some ⟨db, 0, none⟩) 46 46) ∧ w.cell? ⟨lb, 2, none⟩ = some (.bool true)
theorem OneAt.c {w : World} {lb db : Nat} (h : OneAt w lb db) : OneC w lb db := ⟨cellOf h rfl, cellOf h rfl, cellOf h rfl⟩
theorem OneC.keep {w w' : World} {lb db : Nat} (h : OneC w lb db) (hF : Fr noB w w') : OneC w' lb db := ⟨(hF.cell (lt_of_cell h.1) id).trans h.1, (hF.cell (lt_of_cell h.2.1) id).trans h.2.1, (hF.cell (lt_of_cell h.2.2) id).trans h.2.2⟩
/-- The same, whatever range of the block is frozen. -/
def MimeF (w : World) (db : Nat) : Prop := ∃ fz, w.heap[db]? = some (.cells (byteVals mimeB).toArray 5 fz)
theorem MimeAt.f {w : World} {db : Nat} (h : MimeAt w db) : MimeF w db := ⟨_, h⟩
theorem MimeF.fr {S : Nat → Prop} {w w' : World} {db : Nat} (h : MimeF w db) (hF : Fr S w w') (hs : ¬ S db) : MimeF w' db := let ⟨fz, e⟩ := h; ⟨fz, hF.obj e hs⟩
theorem MimeF.lt {w : World} {db : Nat} (h : MimeF w db) : db < w.heap.size := let ⟨_, e⟩ := h; lt_of_block e
theorem cellOfF {w : World} {b o : Nat} {cs : Array Value} {t : TypeId} {fz : Nat × Nat} {v : Value} (h : w.heap[b]? = some (.cells cs t fz)) (hv : cs[o]? = some v) : w.cell? ⟨b, o, none⟩ = some v := by
  simp [World.cell?, h, hv]
theorem MimeF.bs {w : World} {db : Nat} (h : MimeF w db) : Bs w (.slice (some ⟨db, 0, none⟩) 46 46) mimeB := by
  obtain ⟨fz, h⟩ := h
  exact ⟨_, 46, rfl, Nat.le_refl _, by decide, by simp, Or.inr ⟨db, 0, rfl, lt_of_block h, fun i hi => by
    rw [Nat.zero_add]
    exact cellOfF h (by rw [List.getElem?_toArray]; exact byteVals_get mimeB i hi)⟩⟩
theorem MimeAt.bs {w : World} {db : Nat} (h : MimeAt w db) : Bs w (.slice (some ⟨db, 0, none⟩) 46 46) mimeB := h.f.bs
/-- The mimetype as a text. -/
def mimeS : ByteArray := strOf mimeB
theorem mime_lt : ∀ x ∈ mimeB, x < 256 := by decide
theorem mime_name : nameF mimeN = true := by decide +kernel

set_option maxRecDepth 100000 in
theorem mimetype_any (w : World) : Calls Tryz.prog 14 #[] w fun e w' => e = .returned (.string mimeS) ∧ w' = w := by
  go_enter Tryz.func14, Tryz.ntmps14
  go_wp2_with fail
  go_ret
  exact ⟨rfl, rfl⟩

set_option maxRecDepth 100000 in
set_option maxHeartbeats 1600000 in
theorem begins_mime (lb db cp : Nat) (w : World) (h1 : OneC w lb db) (h2 : MimeF w db) :
    Calls Tryz.prog 29 #[.slice (some ⟨lb, 0, none⟩) 1 cp] w fun e w' => e = .returned (.bool true) ∧ Fr noB w w' := by
  have c0 : w.cell? ⟨lb, 0, none⟩ = some (.string mimeN) := h1.1
  have c1 : w.cell? ⟨lb, 1, none⟩ = some (.slice (some ⟨db, 0, none⟩) 46 46) := h1.2.1
  have c2 : w.cell? ⟨lb, 2, none⟩ = some (.bool true) := h1.2.2
  have HBS : Hid (Bs w (.slice (some ⟨db, 0, none⟩) 46 46) mimeB) := h2.bs
  clear h1 h2
  have hN : mimeN.toList = [109, 105, 109, 101, 116, 121, 112, 101] := by decide +kernel
  have hb0 := heap_alloc_new w (.cells #[.string mimeN, .slice (some ⟨db, 0, none⟩) 46 46, .bool true] 29 (0, 0))
  have hF0 := (Fr.refl noB w).alloc (.cells #[.string mimeN, .slice (some ⟨db, 0, none⟩) 46 46, .bool true] 29 (0, 0))
  have d0 := cellOf (o := 0) hb0 rfl
  have d1 := cellOf (o := 1) hb0 rfl
  have d2 := cellOf (o := 2) hb0 rfl
  have hcv : (convert 22 9 (.slice (some ⟨db, 0, none⟩) 46 46)).run Tryz.prog (w.alloc (.cells #[.string mimeN, .slice (some ⟨db, 0, none⟩) 46 46, .bool true] 29 (0, 0))).drew = .ok (.string mimeS) (w.alloc (.cells #[.string mimeN, .slice (some ⟨db, 0, none⟩) 46 46, .bool true] 29 (0, 0))).drew := conv_bytes _ _ _ (HBS.out.fr hF0.drew (fun _ _ _ _ _ _ _ h => h)) mime_lt
  have HMT := mimetype_any
  have HF0 : Hid _ := hF0
  generalize mimeS = ms at *
  clear hb0 hF0
  go_enter Tryz.func29, Tryz.ntmps29
  go_wp2_with fail
  generalize w.alloc (.cells #[.string mimeN, .slice (some ⟨db, 0, none⟩) 46 46, .bool true] 29 (0, 0)) = w2 at *
  go_region_held3 (fun w' => w'.cell? ⟨w.heap.size, 0, none⟩ = some (.string mimeN) ∧ w'.cell? ⟨w.heap.size, 1, none⟩ = some (.slice (some ⟨db, 0, none⟩) 46 46) ∧ w'.cell? ⟨w.heap.size, 2, none⟩ = some (.bool true) ∧ (convert 22 9 (.slice (some ⟨db, 0, none⟩) 46 46)).run Tryz.prog w' = .ok (.string ms) w') (exact ⟨d0, d1, d2, hcv⟩) (first | (go_at_call 14; refine (HMT _).mono ?_; rintro e w3 ⟨rfl, rfl⟩))
  go_wp2_with fail
  go_ret
  exact ⟨rfl, HF0.out.drew⟩

theorem three_new (w : World) (o1 o2 o3 : Obj) : (((w.alloc o1).alloc o2).alloc o3).heap[w.heap.size]? = some o1 ∧ (((w.alloc o1).alloc o2).alloc o3).heap[w.heap.size + 1]? = some o2 ∧ (((w.alloc o1).alloc o2).alloc o3).heap[w.heap.size + 1 + 1]? = some o3 ∧ Fr noB w (((w.alloc o1).alloc o2).alloc o3) := by
  have e1 : (w.alloc o1).heap.size = w.heap.size + 1 := by simp
  have e2 : ((w.alloc o1).alloc o2).heap.size = w.heap.size + 1 + 1 := by simp
  refine ⟨?_, ?_, ?_, (((Fr.refl noB w).alloc o1).alloc o2).alloc o3⟩
  · rw [Below.heap_alloc _ _ _ (by omega), Below.heap_alloc _ _ _ (by omega)]
    exact heap_alloc_new _ _
  · rw [Below.heap_alloc _ _ _ (by omega), ← e1]
    exact heap_alloc_new _ _
  · rw [← e2]
    exact heap_alloc_new _ _
/-- Two new blocks: a struct that is filled, and the answer. -/
structure TwoN (w0 w : World) (a b : Nat) (ca cb : Array Value) (ty : TypeId) : Prop where
  ha : w.heap[a]? = some (.cells ca ty (0, 0))
  hb : w.heap[b]? = some (.cells cb ty (0, 0))
  fr : Fr noB w0 w
  a0 : w0.heap.size ≤ a
  b0 : w0.heap.size ≤ b
  ab : a ≠ b
section
variable {w0 w w' : World} {a b : Nat} {ca cb : Array Value} {ty : TypeId}
theorem TwoN.step (h : TwoN w0 w a b ca cb ty) (h2 : Fr noB w w') : TwoN w0 w' a b ca cb ty := ⟨h2.obj h.ha id, h2.obj h.hb id, h.fr.trans h2, h.a0, h.b0, h.ab⟩
theorem TwoN.setB (h : TwoN w0 w a b ca cb ty) (i : Nat) (x : Value) : TwoN w0 (w.setCell ⟨b, i, none⟩ x) a b ca (cb.setIfInBounds i x) ty :=
  ⟨by rw [Below.heap_setCell _ _ _ _ h.ab]; exact h.ha, setOf i x h.hb, h.fr.setCell _ (Or.inr h.b0) _, h.a0, h.b0, h.ab⟩
theorem TwoN.setA (h : TwoN w0 w a b ca cb ty) (i : Nat) (x : Value) : TwoN w0 (w.setCell ⟨a, i, none⟩ x) a b (ca.setIfInBounds i x) cb ty :=
  ⟨setOf i x h.ha, by rw [Below.heap_setCell _ _ _ _ h.ab.symm]; exact h.hb, h.fr.setCell _ (Or.inr h.a0) _, h.a0, h.b0, h.ab⟩
end
theorem Tryz.infoHead' : (Tryz.prog.info? 69).map (·.size) = some 6 := by kernel_rfl
theorem mime_ascii : ∀ k (h : k < mimeN.size), mimeN[k].toNat ≤ 127 := by
  intro k h
  have hall : ∀ b ∈ mimeN.data.toList, b.toNat ≤ 127 := by decide
  exact hall _ (show mimeN.data[k] ∈ mimeN.data.toList from Array.mem_toList_iff.2 (Array.getElem_mem h))

set_option maxRecDepth 100000 in
set_option maxHeartbeats 1600000 in
theorem headOf_mime (db : Nat) (w : World) (h2 : MimeF w db) :
    Calls Tryz.prog 31 #[mimeV db, .int .i64 46] w fun e w' => e = .returned (hdV 0 0 (crc mimeB) 46 46 mimeN) ∧ Fr noB w w' := by
  unfold mimeV hdV
  have hasc := mime_ascii
  have hsz : mimeN.size ≤ 8 := by decide
  have HSUM : Hid (∀ w', Fr noB w w' → Calls Tryz.prog 6 #[.slice (some ⟨db, 0, none⟩) 46 46] w' fun e w'' => e = .returned (.int .u32 ((crc mimeB : Nat) : Int)) ∧ Fr noB w' w'') := fun w' hF => sum_any _ mimeB w' (h2.bs.fr hF (fun _ _ _ _ _ _ _ h => h)) mime_lt
  obtain ⟨hx0, ha0, hb0, hF0⟩ := three_new w (.cells #[.string mimeN, .slice (some ⟨db, 0, none⟩) 46 46, .bool true] 29 (0, 0)) (.cells #[.int .u16 0, .int .u16 0, .int .u32 0, .int .u32 0, .int .u32 0, .string ⟨#[]⟩] 69 (0, 0)) (.cells #[.int .u16 0, .int .u16 0, .int .u32 0, .int .u32 0, .int .u32 0, .string mimeN] 69 (0, 0))
  have H0 : Hid (TwoN w _ (w.heap.size + 1) (w.heap.size + 1 + 1) _ _ 69) := ⟨ha0, hb0, hF0, by omega, by omega, by omega⟩
  have HX : Hid _ := hx0
  have x0 := cellOf (o := 0) hx0 rfl
  have x1 := cellOf (o := 1) hx0 rfl
  simp only [List.getElem_toArray, List.getElem_cons_zero, List.getElem_cons_succ] at x0 x1
  clear hx0 ha0 hb0 hF0 h2
  generalize mimeN = nm at *
  generalize crc mimeB = cr at *
  go_enter Tryz.func31, Tryz.ntmps31
  go_wp2_with fail
  generalize ((w.alloc (.cells #[.string nm, .slice (some ⟨db, 0, none⟩) 46 46, .bool true] 29 (0, 0))).alloc (.cells #[.int .u16 0, .int .u16 0, .int .u32 0, .int .u32 0, .int .u32 0, .string ⟨#[]⟩] 69 (0, 0))).alloc (.cells #[.int .u16 0, .int .u16 0, .int .u32 0, .int .u32 0, .int .u32 0, .string nm] 69 (0, 0)) = w3 at *
  go_loop [16] (fun i => ∃ k : Nat, k ≤ nm.size ∧ i = .int .i64 (k : Int)) (fun i => nm.size - (intOf i).toNat)
  case atStart => exact ⟨0, Nat.zero_le _, rfl⟩
  case round =>
    obtain ⟨k, hk, rfl⟩ := hrel
    by_cases hlt : k < nm.size
    · have ha := hasc k hlt
      have ha2 : ¬ ((127 : Int) < (nm[k].toNat : Int)) := by omega
      clear hasc
      go_wp2_with fail
      refine ⟨⟨k + 1, by omega, rfl⟩, ?_⟩
      simp [intOf]
      omega
    · clear hasc
      have hw46 : IntKind.u32.wrap 46 = 46 := by decide
      go_wp2_with fail
      go_region_held3 (fun w' => w'.cell? ⟨w.heap.size, 1, none⟩ = some (.slice (some ⟨db, 0, none⟩) 46 46)) (first | exact x1 | exact x1' | exact x1'' _ _ _)
        (first | (go_at_call 6; refine (HSUM.out _ H0.out.fr.drew).mono ?_; rintro e w4 ⟨rfl, hF4⟩; have H1 : Hid (TwoN w w4 (w.heap.size + 1) (w.heap.size + 1 + 1) _ _ 69) := (H0.out.step ((Fr.refl noB w3).drew)).step hF4; have x1' : w4.cell? ⟨w.heap.size, 1, none⟩ = some (.slice (some ⟨db, 0, none⟩) 46 46) := (hF4.cell (a := ⟨w.heap.size, 1, none⟩) (lt_of_block HX.out) id).trans x1; have x1'' : ∀ u2 u3 u4, (((w4.setCell ⟨w.heap.size + 1 + 1, 2, none⟩ u2).setCell ⟨w.heap.size + 1 + 1, 3, none⟩ u3).setCell ⟨w.heap.size + 1 + 1, 4, none⟩ u4).cell? ⟨w.heap.size, 1, none⟩ = some (.slice (some ⟨db, 0, none⟩) 46 46) := fun u2 u3 u4 => (World.cell?_of_block (by rw [Below.heap_setCell _ _ _ _ (by simp only; omega), Below.heap_setCell _ _ _ _ (by simp only; omega), Below.heap_setCell _ _ _ _ (by simp only; omega)])).trans x1'; have k2 := cellOf (o := 2) H1.out.hb rfl; have k3 := cellOf (o := 3) H1.out.hb rfl; have k4 := cellOf (o := 4) H1.out.hb rfl; have f2 := freeOf 2 H1.out.hb; have f3 := freeOf 3 H1.out.hb; have f4 := freeOf 4 H1.out.hb))
      have H2 : Hid (TwoN w _ (w.heap.size + 1) (w.heap.size + 1 + 1) _ _ 69) := ((H1.out.setB 2 (.int .u32 (cr : Int))).setB 3 (.int .u32 46)).setB 4 (.int .u32 46)
      have d0 := cellOf (o := 0) H2.out.hb rfl
      have d1 := cellOf (o := 1) H2.out.hb rfl
      have d2 := cellOf (o := 2) H2.out.hb rfl
      have d3 := cellOf (o := 3) H2.out.hb rfl
      have d4 := cellOf (o := 4) H2.out.hb rfl
      have d5 := cellOf (o := 5) H2.out.hb rfl
      have a0 := cellOf (o := 0) H2.out.ha rfl
      have a1 := cellOf (o := 1) H2.out.ha rfl
      have a2 := cellOf (o := 2) H2.out.ha rfl
      have a3 := cellOf (o := 3) H2.out.ha rfl
      have a4 := cellOf (o := 4) H2.out.ha rfl
      have a5 := cellOf (o := 5) H2.out.ha rfl
      have y0 := freeOf 0 H2.out.ha
      have y1 := freeOf 1 H2.out.ha
      have y2 := freeOf 2 H2.out.ha
      have y3 := freeOf 3 H2.out.ha
      have y4 := freeOf 4 H2.out.ha
      have y5 := freeOf 5 H2.out.ha
      generalize ((w4.setCell ⟨w.heap.size + 1 + 1, 2, none⟩ (.int .u32 (cr : Int))).setCell ⟨w.heap.size + 1 + 1, 3, none⟩ (.int .u32 46)).setCell ⟨w.heap.size + 1 + 1, 4, none⟩ (.int .u32 46) = w5 at *
      clear k2 k3 k4 f2 f3 f4 x1' x1''
      have H3 : Hid (TwoN w _ (w.heap.size + 1) (w.heap.size + 1 + 1) _ _ 69) := (((((H2.out.setA 0 (.int .u16 0)).setA 1 (.int .u16 0)).setA 2 (.int .u32 (cr : Int))).setA 3 (.int .u32 46)).setA 4 (.int .u32 46)).setA 5 (.string nm)
      go_wp2_with fail
      exact bodyPost_ret (results_cell_row Tryz.results31 _ _ (w.heap.size + 1) 69 #[.int .u16 0, .int .u16 0, .int .u32 (cr : Int), .int .u32 46, .int .u32 46, .string nm] (0, 0) _ rfl H3.out.ha Tryz.underlying69 rfl Tryz.infoHead') rfl ⟨rfl, H3.out.fr⟩

set_option maxRecDepth 100000 in
set_option maxHeartbeats 800000 in
theorem lying_mime (db : Nat) (w : World) :
    Calls Tryz.prog 30 #[mimeV db] w fun e w' => e = .returned (.slice (some ⟨db, 0, none⟩) 46 46) ∧ Fr noB w w' := by
  unfold mimeV
  have hF := (Fr.refl noB w).alloc (.cells #[.string mimeN, .slice (some ⟨db, 0, none⟩) 46 46, .bool true] 29 (0, 0))
  generalize mimeN = nm at *
  go_enter Tryz.func30, Tryz.ntmps30
  go_wp2_with fail
  go_ret
  exact ⟨rfl, hF⟩

set_option maxRecDepth 100000 in
set_option maxHeartbeats 1600000 in
theorem check_mime (lb db : Nat) (w : World) (h1 : OneAt w lb db) (h2 : MimeF w db) (hT : Tabs w) :
    Calls Tryz.prog 23 #[.slice (some ⟨lb, 0, none⟩) 1 1] w fun e w' => e = .returned (.int .i64 0) ∧ Fr noB w w' := by
  have c0 : w.cell? ⟨lb, 0, none⟩ = some (.string mimeN) := cellOf h1 rfl
  have c1 : w.cell? ⟨lb, 1, none⟩ = some (.slice (some ⟨db, 0, none⟩) 46 46) := cellOf h1 rfl
  have c2 : w.cell? ⟨lb, 2, none⟩ = some (.bool true) := cellOf h1 rfl
  have HNM : Hid (∀ w', Fr noB w w' → Calls Tryz.prog 9 #[.string mimeN] w' fun e w'' => e = .returned (.bool true) ∧ Fr noB w' w'') := fun w' hF => by
    have := name_any mimeN w' (by decide) (hT.keep hF)
    rw [mime_name] at this
    exact this
  have HIX : Hid (∀ w', Calls Tryz.prog 16 #[.slice (some ⟨lb, 0, none⟩) 0 1, .string mimeN] w' fun e w'' => e = .returned (.int .i64 (-1)) ∧ Fr noB w' w'') := fun w' => indexOf_any (some ⟨lb, 0, none⟩) 1 [] mimeN w' (Or.inl rfl) (by decide)
  have HBG : Hid (∀ w', Fr noB w w' → Calls Tryz.prog 29 #[.slice (some ⟨lb, 0, none⟩) 1 1] w' fun e w'' => e = .returned (.bool true) ∧ Fr noB w' w'') := fun w' hF => begins_mime lb db 1 w' (h1.c.keep hF) (h2.fr hF id)
  have hF0 := (Fr.refl noB w).alloc (.cells #[.string mimeN, .slice (some ⟨db, 0, none⟩) 46 46, .bool true] 29 (0, 0))
  have hx0 := heap_alloc_new w (.cells #[.string mimeN, .slice (some ⟨db, 0, none⟩) 46 46, .bool true] 29 (0, 0))
  have C1 := HNM.out _ hF0
  have HF0 : Hid _ := hF0
  have HX0 : Hid _ := hx0
  clear h1 h2 hT hF0 hx0
  generalize mimeN = nm at *
  go_enter Tryz.func23, Tryz.ntmps23
  go_wp2_with fail
  go_loopg [3, 8] 2 (fun gh rm iv wr => (gh = 2 ∧ wr = w ∧ rm = .int .i64 16777216 ∧ iv = .int .i64 0) ∨ (gh = 1 ∧ Fr noB w wr ∧ rm = .int .i64 16777170 ∧ iv = .int .i64 1))
  case atStart => exact Or.inl ⟨rfl, rfl, rfl, rfl⟩
  case round =>
    rcases hrel with ⟨rfl, rfl, rfl, rfl⟩ | ⟨rfl, hF, rfl, rfl⟩
    · go_wp2_with (go_at_call 9; refine C1.mono ?_; rintro e w1 ⟨rfl, hF1⟩)
      have hx1 := hF1.obj HX0.out id
      have x0 : w1.cell? ⟨wr.heap.size, 0, none⟩ = some (.string nm) := cellOf hx1 rfl
      have HX1 : Hid _ := hx1
      have hFw : Fr noB wr w1 := HF0.out.trans hF1
      clear hx1 hF1
      go_region_held3 (fun w' => w'.cell? ⟨wr.heap.size, 0, none⟩ = some (.string nm)) (first | exact x0 | exact x0')
        (first | (go_at_call 16; refine (HIX.out _).mono ?_; rintro e w2 ⟨rfl, hF2⟩; have x0' : w2.cell? ⟨wr.heap.size, 0, none⟩ = some (.string nm) := (hF2.cell (a := ⟨wr.heap.size, 0, none⟩) (lt_of_block HX1.out) id).trans x0))
      have hFw2 : Fr noB wr w2 := (hFw.drew).trans hF2
      have x1 : w2.cell? ⟨wr.heap.size, 1, none⟩ = some (.slice (some ⟨db, 0, none⟩) 46 46) := cellOf (hF2.obj HX1.out id) rfl
      go_wp2_with fail
      go_roundg 1
      case measure => omega
      case rel => exact Or.inr ⟨rfl, hFw2, rfl, rfl⟩
    · have C2 := HBG.out wr hF
      go_wp2_with (go_at_call 29; refine C2.mono ?_; rintro e w1 ⟨rfl, hF1⟩)
      go_ret
      exact ⟨rfl, hF.trans hF1⟩

/-- The file of the mimetype alone. -/
def mimeF : List Nat := localB 0 0 (crc mimeB) 46 46 mimeN ++ mimeB ++ recordB 0 0 (crc mimeB) 46 46 mimeN 0 0 ++ endB 1 54 84
#print axioms check_mime
end Go.Proofs.YtlhikoomghbnjaaGreatDoor
