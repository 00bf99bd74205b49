/- The one entry of the mimetype's file: zip.file.add. -/
import Derived.Test.YtlhikoomghbnjaaGreatDoorZCont
import Derived.Test.YtlhikoomghbnjaaGreatDoorZHand
import Derived.Deep.AppendLies
import Derived.Deep.DeepCutAuto
namespace Go.Proofs.YtlhikoomghbnjaaGreatDoor
open Go.RowKit
attribute [local go_sem ↓] Go.wp_at_zero Go.wp_at_succ

/-- What a reader of the local part of a file says of one stored entry. -/
structure LocalIs (B : List Nat) (s : Nat) (C : List Nat) (nm : ByteArray) : Prop where
  len_ : B.length = 38 + 46
  mark : lgAt B 0 = 67324752
  fl : shAt B 6 = 0
  me : shAt B 8 = 0
  s_ : lgAt B 14 = s
  l_ : lgAt B 18 = 46
  n_ : lgAt B 22 = 46
  nl : shAt B 26 = 8
  el : shAt B 28 = 0
  name : strOf ((B.drop 30).take 8) = nm
  data : (B.drop 38).take 46 = C

/-- Behind the append onto nothing. -/
theorem grown_one {W2 W3 : World} {base g : Nat} {nm : ByteArray} {v' : Value} (hown3 : W3.ownsRow base 29 3 v' (0 + 1) ([] ++ [.string nm, .slice (some ⟨g, 0, none⟩) 46 46, .bool true])) (hg3 : W2.grownBy W3 (Value.slice none 0 0).ownBlock) :
    ∃ lb cp cur, v' = .slice (some ⟨lb, 0, none⟩) 1 cp ∧ base ≤ lb ∧ W3.heap[lb]? = some (.cells cur 29 (0, 0)) ∧ cur.toList.take 3 = [.string nm, .slice (some ⟨g, 0, none⟩) 46 46, .bool true] ∧ Fr noB W2 W3 := by
  have hFz : Fr noB W2 W3 := (Fr.refl noB W2).grown hg3 (by simp [Value.ownBlock])
  obtain ⟨_, o2⟩ := hown3
  rcases o2 with ⟨_, h0⟩ | ⟨g', cap', cur', k1, k2, k3, k4, k5, k6, k7⟩
  · simp at h0
  · exact ⟨g', cap', cur', k1, k2, k3, by simpa using k7, hFz⟩
theorem added {w W3 : World} {fb lb g cp cap : Nat} {nm : ByteArray} {ao : Option Addr} {n : Nat} {cur : Array Value} (hfb13 : W3.heap[fb]? = some (.cells #[.slice ao n cap, .int .i64 84, .int .i64 43, .slice none 0 0, .int .i64 954] 84 (0, 0))) (hlr : W3.heap[lb]? = some (.cells cur 29 (0, 0))) (hlt3 : cur.toList.take 3 = [.string nm, .slice (some ⟨g, 0, none⟩) 46 46, .bool true]) (hlb : w.heap.size ≤ lb) (hfb : fb < w.heap.size) (hM : MimeAt W3 g) (hg : w.heap.size ≤ g) (hF : Fr (oneB fb) w W3) (c5 c1 : Option Value) (h5 : W3.cell? ⟨w.heap.size, 5, none⟩ = c5) (h1 : W3.cell? ⟨w.heap.size, 1, none⟩ = c1) :
    ((W3.setCell ⟨fb, 3, none⟩ (.slice (some ⟨lb, 0, none⟩) 1 cp)).cell? ⟨lb, 0, none⟩ = some (.string nm) ∧ (W3.setCell ⟨fb, 3, none⟩ (.slice (some ⟨lb, 0, none⟩) 1 cp)).cell? ⟨lb, 1, none⟩ = some (.slice (some ⟨g, 0, none⟩) 46 46) ∧ (W3.setCell ⟨fb, 3, none⟩ (.slice (some ⟨lb, 0, none⟩) 1 cp)).cell? ⟨lb, 2, none⟩ = some (.bool true)) ∧
    MimeAt (W3.setCell ⟨fb, 3, none⟩ (.slice (some ⟨lb, 0, none⟩) 1 cp)) g ∧
    (W3.setCell ⟨fb, 3, none⟩ (.slice (some ⟨lb, 0, none⟩) 1 cp)).heap[fb]? = some (.cells #[.slice ao n cap, .int .i64 84, .int .i64 43, .slice (some ⟨lb, 0, none⟩) 1 cp, .int .i64 954] 84 (0, 0)) ∧
    Fr (oneB fb) w (W3.setCell ⟨fb, 3, none⟩ (.slice (some ⟨lb, 0, none⟩) 1 cp)) ∧
    (W3.setCell ⟨fb, 3, none⟩ (.slice (some ⟨lb, 0, none⟩) 1 cp)).cell? ⟨w.heap.size, 5, none⟩ = c5 ∧ (W3.setCell ⟨fb, 3, none⟩ (.slice (some ⟨lb, 0, none⟩) 1 cp)).cell? ⟨w.heap.size, 1, none⟩ = c1 := by
  have hlbn : lb ≠ fb := by omega
  have hx : w.heap.size ≠ fb := by omega
  have hgn : g ≠ fb := by omega
  have hk : ∀ i v, cur[i]? = some v → (W3.setCell ⟨fb, 3, none⟩ (.slice (some ⟨lb, 0, none⟩) 1 cp)).cell? ⟨lb, i, none⟩ = some v := fun i v hv => by
    rw [World.cell?_of_block (Below.heap_setCell _ _ _ _ hlbn)]
    exact cellOf hlr hv
  have hc : ∀ i, i < 3 → cur[i]? = ([.string nm, .slice (some ⟨g, 0, none⟩) 46 46, .bool true] : List Value)[i]? := fun i hi => by
    rw [← hlt3, List.getElem?_take_of_lt hi, Array.getElem?_toList]
  refine ⟨⟨hk 0 _ (hc 0 (by decide)), hk 1 _ (hc 1 (by decide)), hk 2 _ (hc 2 (by decide))⟩, ?_, setOf 3 _ hfb13, hF.setOne 3 _, ?_, ?_⟩
  · show (W3.setCell ⟨fb, 3, none⟩ (.slice (some ⟨lb, 0, none⟩) 1 cp)).heap[g]? = _
    rw [Below.heap_setCell _ _ _ _ hgn]
    exact hM
  · rw [World.cell?_of_block (Below.heap_setCell _ _ _ _ hx)]
    exact h5
  · rw [World.cell?_of_block (Below.heap_setCell _ _ _ _ hx)]
    exact h1
theorem Tryz.infoEntry : (Tryz.prog.info? 29).map (fun i => (i.zero, i.size, i.bytes)) = some (some (.agg #[.string ⟨#[]⟩, .slice none 0 0, .bool false]), 3, 48) := by kernel_rfl
theorem hold_t (x : Int) (w : World) :
    Calls Tryz.prog 40 #[.bool true, .int .i64 x] w fun e w' => e = .returned (.tuple #[]) ∧ w = w' :=
  (hold_true x w).mono fun _ _ h => ⟨h.1, h.2.symm⟩
/-- The record block's cells. -/
def recC (s : Nat) (nm : ByteArray) : Array Value := #[.int .u16 0, .int .u16 0, .int .u32 (s : Int), .int .u32 46, .int .u32 46, .string nm, .int .u16 0, .int .u32 0]

set_option maxRecDepth 4000000 in
set_option maxHeartbeats 4000000 in
theorem add_mime (fb : Nat) (ao : Option Addr) (cap : Nat) (B : List Nat) (w : World) (hT : Tabs w) (hB : ∀ x ∈ B, x < 256)
    (hR : RdA w fb 84 #[.slice ao B.length cap, .int .i64 0, .int .i64 43, .slice none 0 0, .int .i64 1000] ao cap B 43 0) (hL : LocalIs B (crc mimeB) mimeB mimeN) (hcr : crc mimeB ≠ 4294967295) :
    Calls Tryz.prog 38 #[.pointer (some ⟨fb, 0, none⟩), .agg (recC (crc mimeB) mimeN)] w fun e w' => e = .returned (.tuple #[]) ∧ ∃ g lb cp, OneC w' lb g ∧ MimeAt w' g ∧ w.heap.size ≤ lb ∧ w.heap.size ≤ g ∧ w'.heap[fb]? = some (.cells #[.slice ao B.length cap, .int .i64 84, .int .i64 43, .slice (some ⟨lb, 0, none⟩) 1 cp, .int .i64 954] 84 (0, 0)) ∧ Fr (oneB fb) w w' := by
  have hl := hL.len_
  have hx0 := heap_alloc_new w (.cells (recC (crc mimeB) mimeN) 72 (0, 0))
  have hF0 := (Fr.refl noB w).alloc (.cells (recC (crc mimeB) mimeN) 72 (0, 0))
  have hfb : fb < w.heap.size := lt_of_block hR.at_
  have C1 := taken_stored (crc mimeB) 46 46 0 mimeN (w.alloc (.cells (recC (crc mimeB) mimeN) 72 (0, 0))) hcr (by decide) (by decide) (by decide)
  have HNM : Hid (∀ w', Fr noB w w' → Calls Tryz.prog 9 #[.string mimeN] w' fun e w'' => e = .returned (.bool true) ∧ Fr noB w' w'') := fun w' hF => by
    have := name_any mimeN w' (by decide) (hT.keep hF)
    rw [mime_name] at this
    exact this
  have HIX : Hid (∀ w', Calls Tryz.prog 16 #[.slice none 0 0, .string mimeN] w' fun e w'' => e = .returned (.int .i64 (-1)) ∧ Fr noB w' w'') := fun w' => indexOf_any none 0 [] mimeN w' (Or.inl rfl) (by decide)
  have HLO : Hid (∀ w', RdA w' fb 84 #[.slice ao B.length cap, .int .i64 0, .int .i64 43, .slice none 0 0, .int .i64 1000] ao cap B 43 0 → Calls Tryz.prog 57 #[.pointer (some ⟨fb, 0, none⟩)] w' fun e w'' => e = .returned (.agg #[.int .u16 0, .int .u16 0, .int .u32 ((crc mimeB : Nat) : Int), .int .u32 46, .int .u32 46, .string mimeN]) ∧ RdA w'' fb 84 #[.slice ao B.length cap, .int .i64 0, .int .i64 43, .slice none 0 0, .int .i64 1000] ao cap B 43 38 ∧ Fr (oneB fb) w' w'') := fun w' h' => by
    have := localA fb _ _ ao cap B 43 0 8 0 w' h' hB hL.mark hL.nl hL.el (by omega)
    unfold hdV at this
    rw [show (0 + 6 : Nat) = 6 from rfl, show (0 + 8 : Nat) = 8 from rfl, show (0 + 14 : Nat) = 14 from rfl, show (0 + 18 : Nat) = 18 from rfl, show (0 + 22 : Nat) = 22 from rfl, show (0 + 30 : Nat) = 30 from rfl, hL.fl, hL.me, hL.s_, hL.l_, hL.n_, hL.name] at this
    exact this
  have HFT : Hid (∀ w', Calls Tryz.prog 56 #[.agg #[.int .u16 0, .int .u16 0, .int .u32 ((crc mimeB : Nat) : Int), .int .u32 46, .int .u32 46, .string mimeN, .int .u16 0, .int .u32 0], .agg #[.int .u16 0, .int .u16 0, .int .u32 ((crc mimeB : Nat) : Int), .int .u32 46, .int .u32 46, .string mimeN]] w' fun e w'' => e = .returned (.bool true) ∧ Fr noB w' w'') := fun w' => fits_same 0 (crc mimeB) 46 46 0 mimeN w'
  have HLE : Hid (∀ w', RdA w' fb 84 #[.slice ao B.length cap, .int .i64 0, .int .i64 43, .slice none 0 0, .int .i64 1000] ao cap B 43 38 → Calls Tryz.prog 41 #[.pointer (some ⟨fb, 0, none⟩)] w' fun e w'' => e = .returned (.int .i64 46) ∧ ∃ m, w'' = w'.drewN m) := fun w' h' => left_any fb _ _ ao cap B 38 46 43 w' h' (by omega)
  have HTK : Hid (∀ w', RdA w' fb 84 #[.slice ao B.length cap, .int .i64 0, .int .i64 43, .slice none 0 0, .int .i64 1000] ao cap B 43 38 → Calls Tryz.prog 59 #[.pointer (some ⟨fb, 0, none⟩), .int .i64 46] w' fun e w'' => ∃ ao' c', e = .returned (.slice ao' 46 c') ∧ Bs w'' (.slice ao' 46 c') mimeB ∧ RdA w'' fb 84 #[.slice ao B.length cap, .int .i64 0, .int .i64 43, .slice none 0 0, .int .i64 1000] ao cap B 43 84 ∧ Fr (oneB fb) w' w'') := fun w' h' => by
    have := takeA fb _ _ ao cap B 43 46 38 84 w' h' rfl (by omega)
    refine this.mono ?_
    rintro e w'' ⟨ao', c', e1, e2, -, e3, e4⟩
    rw [hL.data] at e2
    exact ⟨ao', c', e1, e2, e3, e4⟩
  have HCO : Hid (∀ w' ao' c', Bs w' (.slice ao' 46 c') mimeB → Calls Tryz.prog 58 #[.agg #[.int .u16 0, .int .u16 0, .int .u32 ((crc mimeB : Nat) : Int), .int .u32 46, .int .u32 46, .string mimeN], .slice ao' 46 c'] w' fun e w'' => ∃ g, e = .returned (.slice (some ⟨g, 0, none⟩) 46 46) ∧ w'.heap.size ≤ g ∧ MimeAt w'' g ∧ Fr noB w' w'') := fun w' ao' c' h' => contents_stored (crc mimeB) 46 mimeN ao' c' mimeB w' h' (by decide)
  have HSM : Hid (∀ w' g, MimeAt w' g → Calls Tryz.prog 6 #[.slice (some ⟨g, 0, none⟩) 46 46] w' fun e w'' => e = .returned (.int .u32 ((crc mimeB : Nat) : Int)) ∧ Fr noB w' w'') := fun w' g h' => sum_any _ mimeB w' h'.bs mime_lt
  have HDE : Hid (∀ w', Calls Tryz.prog 60 #[.agg #[.int .u16 0, .int .u16 0, .int .u32 ((crc mimeB : Nat) : Int), .int .u32 46, .int .u32 46, .string mimeN]] w' fun e w'' => e = .returned (.bool false) ∧ Fr noB w' w'') := fun w' => described_not 0 (crc mimeB) 46 46 mimeN w'
  have HR : Hid (RdA w fb 84 #[.slice ao B.length cap, .int .i64 0, .int .i64 43, .slice none 0 0, .int .i64 1000] ao cap B 43 0) := hR
  have HX0 : Hid _ := hx0
  have HF0 : Hid _ := hF0
  clear hT hB hR hL hcr hx0 hF0 hl
  unfold recC at *
  generalize crc mimeB = cr at *
  have HEN0 : Hid (∀ w lb g, (w.cell? ⟨lb, 0, none⟩ = some (.string mimeN) ∧ w.cell? ⟨lb, 1, none⟩ = some (.slice (some ⟨g, 0, none⟩) 46 46) ∧ w.cell? ⟨lb, 2, none⟩ = some (.bool true)) → OneC w lb g) := fun _ _ _ h => h
  generalize mimeN = nm at *
  go_enter Tryz.func38, Tryz.ntmps38
  go_wp2_with fail
  refine C1.mono ?_
  rintro e w1 ⟨rfl, hF1⟩
  have ax := hF1.obj HX0.out id
  have HFa : Hid (Fr noB w w1) := HF0.out.trans hF1
  have a0 : w1.cell? ⟨w.heap.size, 0, none⟩ = some (.int .u16 0) := cellOf ax rfl
  have a1 : w1.cell? ⟨w.heap.size, 1, none⟩ = some (.int .u16 0) := cellOf ax rfl
  have a2 : w1.cell? ⟨w.heap.size, 2, none⟩ = some (.int .u32 (cr : Int)) := cellOf ax rfl
  have a3 : w1.cell? ⟨w.heap.size, 3, none⟩ = some (.int .u32 46) := cellOf ax rfl
  have a4 : w1.cell? ⟨w.heap.size, 4, none⟩ = some (.int .u32 46) := cellOf ax rfl
  have a5 : w1.cell? ⟨w.heap.size, 5, none⟩ = some (.string nm) := cellOf ax rfl
  have a6 : w1.cell? ⟨w.heap.size, 6, none⟩ = some (.int .u16 0) := cellOf ax rfl
  have a7 : w1.cell? ⟨w.heap.size, 7, none⟩ = some (.int .u32 0) := cellOf ax rfl
  have C2 := HNM.out w1 HFa.out
  clear hF1
  go_wp2_with (first | (go_at_call 40; with_reducible refine (hold_t _ _).mono ?_; rintro e wq ⟨rfl, rfl⟩) | fail)
  refine C2.mono ?_
  rintro e w2 ⟨rfl, hF2⟩
  have bx := hF2.obj ax id
  have HFb : Hid (Fr noB w w2) := HFa.out.trans hF2
  have b5 : w2.cell? ⟨w.heap.size, 5, none⟩ = some (.string nm) := cellOf bx rfl
  have b7 : w2.cell? ⟨w.heap.size, 7, none⟩ = some (.int .u32 0) := cellOf bx rfl
  have g1 : w2.cell? ⟨fb, 1, none⟩ = some (.int .i64 0) := cellOf (HR.out.keep HFb.out).at_ rfl
  have g3 : w2.cell? ⟨fb, 3, none⟩ = some (.slice none 0 0) := cellOf (HR.out.keep HFb.out).at_ rfl
  clear hF2 a0 a1 a2 a3 a4 a5 a6 a7
  go_wp2_with (first | (go_at_call 40; with_reducible refine (hold_t _ _).mono ?_; rintro e wq ⟨rfl, rfl⟩) | fail)
  go_region_held3 (fun w' => w'.cell? ⟨fb, 3, none⟩ = some (.slice none 0 0) ∧ w'.cell? ⟨w.heap.size, 5, none⟩ = some (.string nm)) (first | exact ⟨g3, b5⟩ | exact ⟨g3', b5'⟩)
    (first | (go_at_call 16; refine (HIX.out _).mono ?_; rintro e w3 ⟨rfl, hF3⟩; have g3' : w3.cell? ⟨fb, 3, none⟩ = some (.slice none 0 0) := (hF3.cell (a := ⟨fb, 3, none⟩) (lt_of_cell g3) id).trans g3; have b5' : w3.cell? ⟨w.heap.size, 5, none⟩ = some (.string nm) := (hF3.cell (a := ⟨w.heap.size, 5, none⟩) (lt_of_cell b5) id).trans b5) | (go_at_call 40; with_reducible refine (hold_t _ _).mono ?_; rintro e wq ⟨rfl, rfl⟩))
  have cx := hF3.obj bx id
  have HFc : Hid (Fr noB w w3) := (HFb.out.drew).trans hF3
  have c7 : w3.cell? ⟨w.heap.size, 7, none⟩ = some (.int .u32 0) := cellOf cx rfl
  have k1 : w3.cell? ⟨fb, 1, none⟩ = some (.int .i64 0) := cellOf (HR.out.keep HFc.out).at_ rfl
  clear hF3 g1 g3 b5 b7 g3' b5'
  go_wp2_with fail
  go_region_held3 (fun w' => w'.cell? ⟨fb, 1, none⟩ = some (.int .i64 0) ∧ w'.cell? ⟨w.heap.size, 7, none⟩ = some (.int .u32 0)) (exact ⟨k1, c7⟩)
    (first | (go_at_call 40; with_reducible refine (hold_t _ _).mono ?_; rintro e wq ⟨rfl, rfl⟩))
  have hxne : w.heap.size ≠ fb := by omega
  have hw46 : IntKind.u64.wrap 46 = 46 := by decide
  have hw1k : IntKind.u64.wrap 1000 = 1000 := by decide
  have c0 : w3.cell? ⟨w.heap.size, 0, none⟩ = some (.int .u16 0) := cellOf cx rfl
  have c1 : w3.cell? ⟨w.heap.size, 1, none⟩ = some (.int .u16 0) := cellOf cx rfl
  have c2 : w3.cell? ⟨w.heap.size, 2, none⟩ = some (.int .u32 (cr : Int)) := cellOf cx rfl
  have c3 : w3.cell? ⟨w.heap.size, 3, none⟩ = some (.int .u32 46) := cellOf cx rfl
  have c4 : w3.cell? ⟨w.heap.size, 4, none⟩ = some (.int .u32 46) := cellOf cx rfl
  have c5 : w3.cell? ⟨w.heap.size, 5, none⟩ = some (.string nm) := cellOf cx rfl
  have c6 : w3.cell? ⟨w.heap.size, 6, none⟩ = some (.int .u16 0) := cellOf cx rfl
  clear k1
  go_wp2_with fail
  go_region_held3 (fun w' => w'.cell? ⟨w.heap.size, 0, none⟩ = some (.int .u16 0) ∧ w'.cell? ⟨w.heap.size, 1, none⟩ = some (.int .u16 0) ∧ w'.cell? ⟨w.heap.size, 2, none⟩ = some (.int .u32 (cr : Int)) ∧ w'.cell? ⟨w.heap.size, 3, none⟩ = some (.int .u32 46) ∧ w'.cell? ⟨w.heap.size, 4, none⟩ = some (.int .u32 46) ∧ w'.cell? ⟨w.heap.size, 5, none⟩ = some (.string nm) ∧ w'.cell? ⟨w.heap.size, 6, none⟩ = some (.int .u16 0) ∧ w'.cell? ⟨w.heap.size, 7, none⟩ = some (.int .u32 0)) (first | exact ⟨c0, c1, c2, c3, c4, c5, c6, c7⟩ | exact ⟨d0, d1, d2, d3, d4, d5, d6, d7⟩ | exact ⟨e0, e1, e2, e3, e4, e5, e6, e7⟩)
    (first | (go_at_call 57; refine (HLO.out _ (HR.out.keep (by repeat' first | with_reducible exact HFc.out | with_reducible refine Fr.drew ?_ | with_reducible refine Fr.drewN ?_ _))).mono ?_; rintro e w4 ⟨rfl, hR4, hF4⟩; have dx : w4.heap[w.heap.size]? = _ := hF4.obj cx hxne; have d0 : w4.cell? ⟨w.heap.size, 0, none⟩ = some (.int .u16 0) := cellOf dx rfl; have d1 : w4.cell? ⟨w.heap.size, 1, none⟩ = some (.int .u16 0) := cellOf dx rfl; have d2 : w4.cell? ⟨w.heap.size, 2, none⟩ = some (.int .u32 (cr : Int)) := cellOf dx rfl; have d3 : w4.cell? ⟨w.heap.size, 3, none⟩ = some (.int .u32 46) := cellOf dx rfl; have d4 : w4.cell? ⟨w.heap.size, 4, none⟩ = some (.int .u32 46) := cellOf dx rfl; have d5 : w4.cell? ⟨w.heap.size, 5, none⟩ = some (.string nm) := cellOf dx rfl; have d6 : w4.cell? ⟨w.heap.size, 6, none⟩ = some (.int .u16 0) := cellOf dx rfl; have d7 : w4.cell? ⟨w.heap.size, 7, none⟩ = some (.int .u32 0) := cellOf dx rfl) | (go_at_call 56; refine (HFT.out _).mono ?_; rintro e w5 ⟨rfl, hF5⟩; have ex : w5.heap[w.heap.size]? = _ := hF5.obj dx id; have e0 : w5.cell? ⟨w.heap.size, 0, none⟩ = some (.int .u16 0) := cellOf ex rfl; have e1 : w5.cell? ⟨w.heap.size, 1, none⟩ = some (.int .u16 0) := cellOf ex rfl; have e2 : w5.cell? ⟨w.heap.size, 2, none⟩ = some (.int .u32 (cr : Int)) := cellOf ex rfl; have e3 : w5.cell? ⟨w.heap.size, 3, none⟩ = some (.int .u32 46) := cellOf ex rfl; have e4 : w5.cell? ⟨w.heap.size, 4, none⟩ = some (.int .u32 46) := cellOf ex rfl; have e5 : w5.cell? ⟨w.heap.size, 5, none⟩ = some (.string nm) := cellOf ex rfl; have e6 : w5.cell? ⟨w.heap.size, 6, none⟩ = some (.int .u16 0) := cellOf ex rfl; have e7 : w5.cell? ⟨w.heap.size, 7, none⟩ = some (.int .u32 0) := cellOf ex rfl) | (go_at_call 40; with_reducible refine (hold_t _ _).mono ?_; rintro e wq ⟨rfl, rfl⟩))
  have HR5 : Hid (RdA w5 fb 84 #[.slice ao B.length cap, .int .i64 0, .int .i64 43, .slice none 0 0, .int .i64 1000] ao cap B 43 38) := hR4.keep hF5
  have HFe : Hid (Fr (oneB fb) w w5) := ((HFc.out.weak.drewN 2).trans hF4).trans hF5.weak
  clear c0 d0 c1 d1 c2 d2 c3 d3 c4 d4 c5 d5 c6 d6 c7 d7 hR4 hF4 hF5
  go_wp2_with fail
  go_region_held3 (fun w' => w'.cell? ⟨w.heap.size, 3, none⟩ = some (.int .u32 46)) (first | exact e3)
    (first | (go_at_call 41; refine (HLE.out _ (HR5.out.keep (by repeat' first | with_reducible exact Fr.refl _ _ | with_reducible refine Fr.drew ?_ | with_reducible refine Fr.drewN ?_ _))).mono ?_; rintro e w6 ⟨rfl, m6, rfl⟩) | (go_at_call 40; with_reducible refine (hold_t _ _).mono ?_; rintro e wq ⟨rfl, rfl⟩))
  have n4 : w5.cell? ⟨fb, 4, none⟩ = some (.int .i64 1000) := cellOf HR5.out.at_ rfl
  go_wp2_with fail
  go_region_held3 (fun w' => w'.cell? ⟨w.heap.size, 4, none⟩ = some (.int .u32 46) ∧ w'.cell? ⟨fb, 4, none⟩ = some (.int .i64 1000)) (first | exact ⟨e4, n4⟩)
    (first | (go_at_call 40; with_reducible refine (hold_t _ _).mono ?_; rintro e wq ⟨rfl, rfl⟩))
  go_wp2_with fail
  go_cut [4] (fun v wc => ∃ g, v = .slice (some ⟨g, 0, none⟩) 46 46 ∧ RdA wc fb 84 #[.slice ao B.length cap, .int .i64 0, .int .i64 43, .slice none 0 0, .int .i64 1000] ao cap B 43 84 ∧ Fr (oneB fb) w wc ∧ w.heap.size ≤ g ∧ MimeAt wc g ∧ wc.heap[w.heap.size]? = some (.cells #[.int .u16 0, .int .u16 0, .int .u32 (cr : Int), .int .u32 46, .int .u32 46, .string nm, .int .u16 0, .int .u32 0] 72 (0, 0)))
  case first =>
    go_region_held3 (fun w' => w'.cell? ⟨w.heap.size, 0, none⟩ = some (.int .u16 0) ∧ w'.cell? ⟨w.heap.size, 1, none⟩ = some (.int .u16 0) ∧ w'.cell? ⟨w.heap.size, 2, none⟩ = some (.int .u32 (cr : Int)) ∧ w'.cell? ⟨w.heap.size, 3, none⟩ = some (.int .u32 46) ∧ w'.cell? ⟨w.heap.size, 4, none⟩ = some (.int .u32 46) ∧ w'.cell? ⟨w.heap.size, 5, none⟩ = some (.string nm)) (first | exact ⟨e0, e1, e2, e3, e4, e5⟩ | exact ⟨f0, f1, f2, f3, f4, f5⟩ | exact ⟨h0, h1, h2, h3, h4, h5⟩)
      (first | (go_at_call 59; refine (HTK.out _ (HR5.out.keep (by repeat' first | with_reducible exact Fr.refl _ _ | with_reducible refine Fr.drew ?_ | with_reducible refine Fr.drewN ?_ _))).mono ?_; rintro e w7 ⟨ao', c', rfl, hbs7, hR7, hF7⟩; have fx : w7.heap[w.heap.size]? = _ := hF7.obj ex hxne; have f0 : w7.cell? ⟨w.heap.size, 0, none⟩ = some (.int .u16 0) := cellOf fx rfl; have f1 : w7.cell? ⟨w.heap.size, 1, none⟩ = some (.int .u16 0) := cellOf fx rfl; have f2 : w7.cell? ⟨w.heap.size, 2, none⟩ = some (.int .u32 (cr : Int)) := cellOf fx rfl; have f3 : w7.cell? ⟨w.heap.size, 3, none⟩ = some (.int .u32 46) := cellOf fx rfl; have f4 : w7.cell? ⟨w.heap.size, 4, none⟩ = some (.int .u32 46) := cellOf fx rfl; have f5 : w7.cell? ⟨w.heap.size, 5, none⟩ = some (.string nm) := cellOf fx rfl) | (go_at_call 58; refine (HCO.out _ _ _ hbs7).mono ?_; rintro e w8 ⟨g, rfl, hg8, hm8, hF8⟩; have hx : w8.heap[w.heap.size]? = _ := hF8.obj fx id; have h0 : w8.cell? ⟨w.heap.size, 0, none⟩ = some (.int .u16 0) := cellOf hx rfl; have h1 : w8.cell? ⟨w.heap.size, 1, none⟩ = some (.int .u16 0) := cellOf hx rfl; have h2 : w8.cell? ⟨w.heap.size, 2, none⟩ = some (.int .u32 (cr : Int)) := cellOf hx rfl; have h3 : w8.cell? ⟨w.heap.size, 3, none⟩ = some (.int .u32 46) := cellOf hx rfl; have h4 : w8.cell? ⟨w.heap.size, 4, none⟩ = some (.int .u32 46) := cellOf hx rfl; have h5 : w8.cell? ⟨w.heap.size, 5, none⟩ = some (.string nm) := cellOf hx rfl))
    go_wp2_with fail
    go_meet
    exact ⟨g, rfl, hR7.keep hF8, ((HFe.out.drewN _).trans hF7).trans hF8.weak, Nat.le_trans ((HFe.out.drewN _).trans hF7).size hg8, hm8, hx⟩
  case rest =>
    obtain ⟨g, rfl, hR8, hF8, hg8, hm8, hx⟩ := hcut
    have HR8 : Hid (RdA wc fb 84 #[.slice ao B.length cap, .int .i64 0, .int .i64 43, .slice none 0 0, .int .i64 1000] ao cap B 43 84) := hR8
    have HFh : Hid (Fr (oneB fb) w wc) := hF8
    have HG8 : Hid (w.heap.size ≤ g) := hg8
    have HM8 : Hid (MimeAt wc g) := hm8
    have HX8 : Hid (wc.heap[w.heap.size]? = some (.cells #[.int .u16 0, .int .u16 0, .int .u32 (cr : Int), .int .u32 46, .int .u32 46, .string nm, .int .u16 0, .int .u32 0] 72 (0, 0))) := hx
    have h2 : wc.cell? ⟨w.heap.size, 2, none⟩ = some (.int .u32 (cr : Int)) := cellOf hx rfl
    have h4 : wc.cell? ⟨w.heap.size, 4, none⟩ = some (.int .u32 46) := cellOf hx rfl
    clear hR8 hF8 hg8 hm8 hx ax bx cx dx C1 C2 HLO HLE HTK HCO HFT HIX HNM HR5 HFe HF0 HX0 HFa HFb HFc hw46 hw1k e0 e1 e2 e3 e4 e5 e6 e7 n4 ex
    go_wp2_with fail
    refine wp_region_held_drew (S := fun w' => w'.cell? ⟨w.heap.size, 2, none⟩ = some (.int .u32 (cr : Int)) ∧ w'.cell? ⟨w.heap.size, 4, none⟩ = some (.int .u32 46)) (by kernel_rfl) ⟨h2, h4⟩ (fun hHeld => ?_)
    refine wpAnyH_take (i := 0) (v := .slice (some ⟨g, 0, none⟩) 46 46) rfl (by kernel_rfl) (by kernel_rfl) (by kernel_rfl) (fun _ _ _ h => h) (Or.inl ⟨by kernel_rfl, fun w hSw => by kernel_rfl⟩) hHeld ?_
    refine wpAnyH_take (i := 1) (v := .int .i64 46) rfl (by kernel_rfl) (by kernel_rfl) (by kernel_rfl) (fun _ _ _ h => h) (Or.inl ⟨by kernel_rfl, fun w hSw => by kernel_rfl⟩) hHeld ?_
    refine wpAnyH_take (i := 2) (v := .pointer (some ⟨w.heap.size, 0, none⟩)) rfl (by kernel_rfl) (by kernel_rfl) (by kernel_rfl) (fun _ _ _ h => h) (Or.inl ⟨by kernel_rfl, fun w hSw => by kernel_rfl⟩) hHeld ?_
    refine wpAnyH_take (i := 3) (v := .pointer (some ⟨w.heap.size, 2, none⟩)) rfl (by kernel_rfl) (by kernel_rfl) (by kernel_rfl) (fun _ _ _ h => h) (Or.inl ⟨by kernel_rfl, fun w hSw => by kernel_rfl⟩) hHeld ?_
    refine wpAnyH_take (i := 4) (v := .pointer (some ⟨w.heap.size, 4, none⟩)) rfl (by kernel_rfl) (by kernel_rfl) (by kernel_rfl) (fun _ _ _ h => h) (Or.inl ⟨by kernel_rfl, fun w hSw => by kernel_rfl⟩) hHeld ?_
    refine wpAnyH_take (i := 5) (v := .int .u32 46) rfl (by kernel_rfl) (by kernel_rfl) (by kernel_rfl) (fun _ _ _ h => h) (y_load24 (.tmp 81) w.heap.size 4 _ (by kernel_rfl) rfl (by kernel_rfl) (fun _ h => h.2)) hHeld ?_
    refine wpAnyH_take (i := 6) (v := .int .i64 46) rfl (by kernel_rfl) (by kernel_rfl) (by kernel_rfl) (fun _ _ _ h => h) (Or.inl ⟨by kernel_rfl, fun w hSw => by kernel_rfl⟩) hHeld ?_
    refine wpAnyH_take (i := 7) (v := .bool true) rfl (by kernel_rfl) (by kernel_rfl) (by kernel_rfl) (fun _ _ _ h => h) (Or.inl ⟨by kernel_rfl, fun w hSw => by kernel_rfl⟩) hHeld ?_
    refine wpAnyH_take (i := 8) (v := .bool true) rfl (by kernel_rfl) (by kernel_rfl) (by kernel_rfl) (fun _ _ _ h => h) (Or.inl ⟨by kernel_rfl, fun w hSw => by kernel_rfl⟩) hHeld ?_
    refine wpAnyH_take (i := 9) (v := .slice (some ⟨g, 0, none⟩) 46 46) rfl (by kernel_rfl) (by kernel_rfl) (by kernel_rfl) (fun _ _ _ h => h) (Or.inl ⟨by kernel_rfl, fun w hSw => by kernel_rfl⟩) hHeld ?_
    refine wpAnyH_take (i := 11) (v := .pointer (some ⟨w.heap.size, 0, none⟩)) rfl (by kernel_rfl) (by kernel_rfl) (by kernel_rfl) (fun _ _ _ h => h) (Or.inl ⟨by kernel_rfl, fun w hSw => by kernel_rfl⟩) hHeld ?_
    refine wpAnyH_take (i := 12) (v := .pointer (some ⟨w.heap.size, 2, none⟩)) rfl (by kernel_rfl) (by kernel_rfl) (by kernel_rfl) (fun _ _ _ h => h) (Or.inl ⟨by kernel_rfl, fun w hSw => by kernel_rfl⟩) hHeld ?_
    refine wpAnyH_take (i := 13) (v := .pointer (some ⟨w.heap.size, 2, none⟩)) rfl (by kernel_rfl) (by kernel_rfl) (by kernel_rfl) (fun _ _ _ h => h) (Or.inl ⟨by kernel_rfl, fun w hSw => by kernel_rfl⟩) hHeld ?_
    refine wpAnyH_take (i := 14) (v := .int .u32 (cr : Int)) rfl (by kernel_rfl) (by kernel_rfl) (by kernel_rfl) (fun _ _ _ h => h) (y_load24 (.tmp 90) w.heap.size 2 _ (by kernel_rfl) rfl (by kernel_rfl) (fun _ h => h.1)) hHeld ?_
    refine wpAnyH_ready (rs := [10]) (by kernel_rfl) (by simp) ?_
    refine AllReadyH.cons rfl (fun K hK => ?_) AllReadyH.nil
    rw [if_pos (by kernel_rfl)]
    refine wp_go 6 #[.slice (some ⟨g, 0, none⟩) 46 46] (by kernel_rfl) ?_
    refine (HSM.out _ g (show MimeAt wc.drew g from HM8.out)).mono ?_
    rintro e w9 ⟨rfl, hF9⟩
    have HIX9 : Hid _ := hF9.obj HX8.out id
    have i2 : w9.cell? ⟨w.heap.size, 2, none⟩ = some (.int .u32 (cr : Int)) := cellOf HIX9.out rfl
    have i4 : w9.cell? ⟨w.heap.size, 4, none⟩ = some (.int .u32 46) := cellOf HIX9.out rfl
    refine hK.out _ _ ⟨i2, i4⟩ (fun hHeld9 => ?_)
    clear hK K
    refine wpAnyH_take (i := 15) (v := .bool true) rfl (by kernel_rfl) (by kernel_rfl) (by kernel_rfl) (fun _ _ _ h => h) (y_eql (.tmp 87) (.tmp 91) 24 24 .u32 (cr : Int) (by kernel_rfl) rfl (by kernel_rfl) (by kernel_rfl)) hHeld9 ?_
    refine wpAnyH_take (i := 16) (v := .bool true) rfl (by kernel_rfl) (by kernel_rfl) (by kernel_rfl) (fun _ _ _ h => h) (Or.inl ⟨by kernel_rfl, fun w hSw => by kernel_rfl⟩) hHeld9 ?_
    refine wpAnyH_ready (rs := [17]) (by kernel_rfl) (by simp) ?_
    refine AllReadyH.cons rfl (fun K hK => ?_) AllReadyH.nil
    rw [if_pos (by kernel_rfl)]
    refine wp_go 40 #[.bool true, .int .i64 44] (by kernel_rfl) ?_
    refine (hold_t _ _).mono ?_
    rintro e wq ⟨rfl, rfl⟩
    refine hK.out _ _ ⟨i2, i4⟩ (fun _ => ?_)
    clear hK K
    refine wpAnyH_done (by kernel_rfl) ?_ _
    refine frame_to { tmps := #[.pointer (some ⟨fb, 0, none⟩), .agg #[.int .u16 0, .int .u16 0, .int .u32 (cr : Int), .int .u32 46, .int .u32 46, .string nm, .int .u16 0, .int .u32 0], undef, .pointer (some ⟨w.heap.size, 0, none⟩), .slice (some ⟨g, 0, none⟩) 46 46, u5, u6, u7, u8, u9, u10, u11, u12, u13, u14, u15, u16, u17, u18, u19, u20, u21, u22, u23, u24, u25, u26, u27, u28, u29, u30, u31, u32, u33, u34, u35, u36, u37, u38, u39, u40, u41, u42, u43, u44, u45, u46, u47, u48, u49, u50, u51, u52, u53, u54, u55, u56, u57, u58, u59, u60, u61, u62, u63, u64, u65, u66, u67, u68, u69, u70, u71, u72, u73, u74, u75, u76, .slice (some ⟨g, 0, none⟩) 46 46, .int .i64 46, .pointer (some ⟨w.heap.size, 0, none⟩), .pointer (some ⟨w.heap.size, 2, none⟩), .pointer (some ⟨w.heap.size, 4, none⟩), .int .u32 46, .int .i64 46, .bool true, .bool true, .slice (some ⟨g, 0, none⟩) 46 46, .int .u32 (cr : Int), .pointer (some ⟨w.heap.size, 0, none⟩), .pointer (some ⟨w.heap.size, 2, none⟩), .pointer (some ⟨w.heap.size, 2, none⟩), .int .u32 (cr : Int), .bool true, .bool true, .tuple #[], u95, u96, u97, u98, u99, u100, u101, u102, u103, u104, u105, u106, u107, u108, u109, u110, u111, u112, u113, u114, u115, u116, u117, u118, u119, u120, u121, u122, u123, u124, u125, u126, u127, u128, u129, u130, u131], defers := [] } (by kernel_rfl) ?_
    have ix := HIX9.out
    have i0 : w9.cell? ⟨w.heap.size, 0, none⟩ = some (.int .u16 0) := cellOf ix rfl
    have i1 : w9.cell? ⟨w.heap.size, 1, none⟩ = some (.int .u16 0) := cellOf ix rfl
    have i3 : w9.cell? ⟨w.heap.size, 3, none⟩ = some (.int .u32 46) := cellOf ix rfl
    have i5 : w9.cell? ⟨w.heap.size, 5, none⟩ = some (.string nm) := cellOf ix rfl
    have HR9 : Hid (RdA w9 fb 84 #[.slice ao B.length cap, .int .i64 0, .int .i64 43, .slice none 0 0, .int .i64 1000] ao cap B 43 84) := (HR8.out.keep ((Fr.refl noB wc).drew)).keep hF9
    have HFi : Hid (Fr (oneB fb) w w9) := (HFh.out.drew).trans hF9.weak
    have HM9 : Hid (MimeAt w9 g) := hF9.obj HM8.out id
    clear h2 h4 hF9
    go_wp2_with fail
    refine (HDE.out _).mono ?_
    rintro e w10 ⟨rfl, hF10⟩
    have jx := hF10.obj ix id
    have j0 : w10.cell? ⟨w.heap.size, 0, none⟩ = some (.int .u16 0) := cellOf jx rfl
    have j1 : w10.cell? ⟨w.heap.size, 1, none⟩ = some (.int .u16 0) := cellOf jx rfl
    have j2 : w10.cell? ⟨w.heap.size, 2, none⟩ = some (.int .u32 (cr : Int)) := cellOf jx rfl
    have j3 : w10.cell? ⟨w.heap.size, 3, none⟩ = some (.int .u32 46) := cellOf jx rfl
    have j4 : w10.cell? ⟨w.heap.size, 4, none⟩ = some (.int .u32 46) := cellOf jx rfl
    have j5 : w10.cell? ⟨w.heap.size, 5, none⟩ = some (.string nm) := cellOf jx rfl
    have HR10 : Hid (RdA w10 fb 84 #[.slice ao B.length cap, .int .i64 0, .int .i64 43, .slice none 0 0, .int .i64 1000] ao cap B 43 84) := HR9.out.keep hF10
    have HFj : Hid (Fr (oneB fb) w w10) := HFi.out.trans hF10.weak
    have HM10 : Hid (MimeAt w10 g) := hF10.obj HM9.out id
    have hfb10 : w10.heap[fb]? = some (.cells #[.slice ao B.length cap, .int .i64 84, .int .i64 43, .slice none 0 0, .int .i64 1000] 84 (0, 0)) := HR10.out.at_
    have p4 : w10.cell? ⟨fb, 4, none⟩ = some (.int .i64 1000) := cellOf hfb10 rfl
    have z4 := freeOf 4 hfb10
    have HFB : Hid _ := setOf 4 (.int .i64 954) hfb10
    have HFk : Hid (Fr (oneB fb) w (w10.setCell ⟨fb, 4, none⟩ (.int .i64 954))) := HFj.out.setOne 4 _
    have HM11 : Hid (MimeAt (w10.setCell ⟨fb, 4, none⟩ (.int .i64 954)) g) := by
      show (w10.setCell ⟨fb, 4, none⟩ (.int .i64 954)).heap[g]? = _
      rw [Below.heap_setCell _ _ _ _ (by have := HG8.out; simp only; omega)]
      exact HM10.out
    have HX11 : Hid ((w10.setCell ⟨fb, 4, none⟩ (.int .i64 954)).heap[w.heap.size]? = some (.cells #[.int .u16 0, .int .u16 0, .int .u32 (cr : Int), .int .u32 46, .int .u32 46, .string nm, .int .u16 0, .int .u32 0] 72 (0, 0))) := by
      show (w10.setCell ⟨fb, 4, none⟩ (.int .i64 954)).heap[w.heap.size]? = _
      rw [Below.heap_setCell _ _ _ _ (by simp only; omega)]
      exact jx
    clear i0 i1 i2 i3 i4 i5 hF10 hfb10
    go_wp2_with fail
    obtain ⟨i0, hi, hz0, hz1, hz2⟩ := info_parts Tryz.infoEntry
    have hfb11 : (w10.setCell ⟨fb, 4, none⟩ (.int .i64 954)).heap[fb]? = some (.cells #[.slice ao B.length cap, .int .i64 84, .int .i64 43, .slice none 0 0, .int .i64 954] 84 (0, 0)) := HFB.out
    have s3 : (w10.setCell ⟨fb, 4, none⟩ (.int .i64 954)).cell? ⟨fb, 3, none⟩ = some (.slice none 0 0) := cellOf hfb11 rfl
    have s5 : (w10.setCell ⟨fb, 4, none⟩ (.int .i64 954)).cell? ⟨w.heap.size, 5, none⟩ = some (.string nm) := cellOf HX11.out rfl
    have s1 : (w10.setCell ⟨fb, 4, none⟩ (.int .i64 954)).cell? ⟨w.heap.size, 1, none⟩ = some (.int .u16 0) := cellOf HX11.out rfl
    have hsz11 := HFk.out.size
    generalize w10.setCell ⟨fb, 4, none⟩ (.int .i64 954) = W at *
    have HFB11 : Hid _ := hfb11
    clear hfb11 p4 z4 j0 j1 j2 j3 j4 j5 jx
    refine wp_region_held_drew (S := fun w' => w'.cell? ⟨w.heap.size, 5, none⟩ = some (.string nm) ∧ w'.cell? ⟨w.heap.size, 1, none⟩ = some (.int .u16 0)) (by kernel_rfl) ⟨s5, s1⟩ (fun hHeld => ?_)
    refine wpAnyH_take (i := 0) (v := .pointer (some ⟨fb, 0, none⟩)) rfl (by kernel_rfl) (by kernel_rfl) (by kernel_rfl) (fun _ _ _ h => h) (Or.inl ⟨by kernel_rfl, fun w hSw => by kernel_rfl⟩) hHeld ?_
    refine wpAnyH_take (i := 1) (v := .pointer (some ⟨fb, 0, none⟩)) rfl (by kernel_rfl) (by kernel_rfl) (by kernel_rfl) (fun _ _ _ h => h) (Or.inl ⟨by kernel_rfl, fun w hSw => by kernel_rfl⟩) hHeld ?_
    refine wpAnyH_take (i := 2) (v := .pointer (some ⟨fb, 0, none⟩)) rfl (by kernel_rfl) (by kernel_rfl) (by kernel_rfl) (fun _ _ _ h => h) (Or.inl ⟨by kernel_rfl, fun w hSw => by kernel_rfl⟩) hHeld ?_
    refine wpAnyH_take (i := 3) (v := .pointer (some ⟨fb, 3, none⟩)) rfl (by kernel_rfl) (by kernel_rfl) (by kernel_rfl) (fun _ _ _ h => h) (Or.inl ⟨by kernel_rfl, fun w hSw => by kernel_rfl⟩) hHeld ?_
    refine wpAnyH_take (i := 5) (v := .pointer (some ⟨w.heap.size, 0, none⟩)) rfl (by kernel_rfl) (by kernel_rfl) (by kernel_rfl) (fun _ _ _ h => h) (Or.inl ⟨by kernel_rfl, fun w hSw => by kernel_rfl⟩) hHeld ?_
    refine wpAnyH_take (i := 6) (v := .pointer (some ⟨w.heap.size, 5, none⟩)) rfl (by kernel_rfl) (by kernel_rfl) (by kernel_rfl) (fun _ _ _ h => h) (Or.inl ⟨by kernel_rfl, fun w hSw => by kernel_rfl⟩) hHeld ?_
    refine wpAnyH_take (i := 7) (v := .string nm) rfl (by kernel_rfl) (by kernel_rfl) (by kernel_rfl) (fun _ _ _ h => h) (y_loadOf 9 load9 (.tmp 120) w.heap.size 5 _ (by kernel_rfl) rfl (by kernel_rfl) (fun _ h => h.1)) hHeld ?_
    refine wpAnyH_take (i := 8) (v := .slice (some ⟨g, 0, none⟩) 46 46) rfl (by kernel_rfl) (by kernel_rfl) (by kernel_rfl) (fun _ _ _ h => h) (Or.inl ⟨by kernel_rfl, fun w hSw => by kernel_rfl⟩) hHeld ?_
    refine wpAnyH_take (i := 9) (v := .pointer (some ⟨w.heap.size, 0, none⟩)) rfl (by kernel_rfl) (by kernel_rfl) (by kernel_rfl) (fun _ _ _ h => h) (Or.inl ⟨by kernel_rfl, fun w hSw => by kernel_rfl⟩) hHeld ?_
    refine wpAnyH_take (i := 10) (v := .pointer (some ⟨w.heap.size, 1, none⟩)) rfl (by kernel_rfl) (by kernel_rfl) (by kernel_rfl) (fun _ _ _ h => h) (Or.inl ⟨by kernel_rfl, fun w hSw => by kernel_rfl⟩) hHeld ?_
    refine wpAnyH_take (i := 11) (v := .int .u16 0) rfl (by kernel_rfl) (by kernel_rfl) (by kernel_rfl) (fun _ _ _ h => h) (y_loadOf 65 load78 (.tmp 124) w.heap.size 1 _ (by kernel_rfl) rfl (by kernel_rfl) (fun _ h => h.2)) hHeld ?_
    refine wpAnyH_take (i := 12) (v := .bool true) rfl (by kernel_rfl) (by kernel_rfl) (by kernel_rfl) (fun _ _ _ h => h) (Or.inl ⟨by kernel_rfl, fun w hSw => by kernel_rfl⟩) hHeld ?_
    refine wpAnyH_take (i := 13) (v := .agg #[.string nm, .slice (some ⟨g, 0, none⟩) 46 46, .bool true]) rfl (by kernel_rfl) (by kernel_rfl) (by kernel_rfl) (fun _ _ _ h => h) (Or.inl ⟨by kernel_rfl, fun w hSw => by kernel_rfl⟩) hHeld ?_
    have hFa := ((Fr.refl noB W).drew).alloc (.cells #[.string nm, .slice (some ⟨g, 0, none⟩) 46 46, .bool true] 29 (0, 0))
    have hna := heap_alloc_new W.drew (.cells #[.string nm, .slice (some ⟨g, 0, none⟩) 46 46, .bool true] 29 (0, 0))
    have hS2 : (W.drew.alloc (.cells #[.string nm, .slice (some ⟨g, 0, none⟩) 46 46, .bool true] 29 (0, 0))).cell? ⟨w.heap.size, 5, none⟩ = some (.string nm) ∧ (W.drew.alloc (.cells #[.string nm, .slice (some ⟨g, 0, none⟩) 46 46, .bool true] 29 (0, 0))).cell? ⟨w.heap.size, 1, none⟩ = some (.int .u16 0) := ⟨(hFa.cell (lt_of_cell s5) id).trans s5, (hFa.cell (lt_of_cell s1) id).trans s1⟩
    have hS23 : (W.drew.alloc (.cells #[.string nm, .slice (some ⟨g, 0, none⟩) 46 46, .bool true] 29 (0, 0))).cell? ⟨fb, 3, none⟩ = some (.slice none 0 0) := (hFa.cell (lt_of_cell s3) id).trans s3
    have hfb12 := hFa.obj HFB11.out id
    have hM12 : MimeAt (W.drew.alloc (.cells #[.string nm, .slice (some ⟨g, 0, none⟩) 46 46, .bool true] 29 (0, 0))) g := hFa.obj HM11.out id
    have hF12 : Fr (oneB fb) w (W.drew.alloc (.cells #[.string nm, .slice (some ⟨g, 0, none⟩) 46 46, .bool true] 29 (0, 0))) := (HFk.out.drew).alloc _
    have hn12 : ∀ j u, ([.string nm, .slice (some ⟨g, 0, none⟩) 46 46, .bool true] : List Value)[j]? = some u → (W.drew.alloc (.cells #[.string nm, .slice (some ⟨g, 0, none⟩) 46 46, .bool true] 29 (0, 0))).cell? ((⟨W.heap.size, 0, none⟩ : Addr).add j) = some u := fun j u hj => by
      rw [add_none, Nat.zero_add]
      exact cellOf hna (by rw [List.getElem?_toArray]; exact hj)
    have hsz12 : w.heap.size ≤ (W.drew.alloc (.cells #[.string nm, .slice (some ⟨g, 0, none⟩) 46 46, .bool true] 29 (0, 0))).heap.size := hF12.size
    refine anyH_to { tmps := #[.pointer (some ⟨fb, 0, none⟩), .agg #[.int .u16 0, .int .u16 0, .int .u32 (cr : Int), .int .u32 46, .int .u32 46, .string nm, .int .u16 0, .int .u32 0], undef, .pointer (some ⟨w.heap.size, 0, none⟩), .slice (some ⟨g, 0, none⟩) 46 46, u5, u6, u7, u8, u9, u10, u11, u12, u13, u14, u15, u16, u17, u18, u19, u20, u21, u22, u23, u24, u25, u26, u27, u28, u29, u30, u31, u32, u33, u34, u35, u36, u37, u38, u39, u40, u41, u42, u43, u44, u45, u46, u47, u48, u49, u50, u51, u52, u53, u54, u55, u56, u57, u58, u59, u60, u61, u62, u63, u64, u65, u66, u67, u68, u69, u70, u71, u72, u73, u74, u75, u76, .slice (some ⟨g, 0, none⟩) 46 46, .int .i64 46, .pointer (some ⟨w.heap.size, 0, none⟩), .pointer (some ⟨w.heap.size, 2, none⟩), .pointer (some ⟨w.heap.size, 4, none⟩), .int .u32 46, .int .i64 46, .bool true, .bool true, .slice (some ⟨g, 0, none⟩) 46 46, .int .u32 (cr : Int), .pointer (some ⟨w.heap.size, 0, none⟩), .pointer (some ⟨w.heap.size, 2, none⟩), .pointer (some ⟨w.heap.size, 2, none⟩), .int .u32 (cr : Int), .bool true, .bool true, .tuple #[], .pointer (some ⟨w.heap.size, 0, none⟩), .agg #[.int .u16 0, .int .u16 0, .int .u32 (cr : Int), .int .u32 46, .int .u32 46, .string nm], .bool false, u98, u99, u100, u101, u102, u103, u104, .pointer (some ⟨fb, 0, none⟩), .pointer (some ⟨fb, 0, none⟩), .pointer (some ⟨fb, 4, none⟩), .int .i64 1000, .slice (some ⟨g, 0, none⟩) 46 46, .int .i64 46, .int .i64 954, .pointer (some ⟨fb, 0, none⟩), .pointer (some ⟨fb, 4, none⟩), .pointer (some ⟨fb, 0, none⟩), .pointer (some ⟨fb, 0, none⟩), .pointer (some ⟨fb, 0, none⟩), .pointer (some ⟨fb, 3, none⟩), u118, .pointer (some ⟨w.heap.size, 0, none⟩), .pointer (some ⟨w.heap.size, 5, none⟩), .string nm, .slice (some ⟨g, 0, none⟩) 46 46, .pointer (some ⟨w.heap.size, 0, none⟩), .pointer (some ⟨w.heap.size, 1, none⟩), .int .u16 0, .bool true, .agg #[.string nm, .slice (some ⟨g, 0, none⟩) 46 46, .bool true], u128, u129, u130, u131], defers := [] } (by kernel_rfl) ?_
    refine wpAnyH_ready (rs := [4, 14]) (by kernel_rfl) (by simp) ?_
    refine AllReadyH.cons rfl (fun K hK => ?_) ?_
    · rw [if_pos (by kernel_rfl)]
      refine wp_loadOf 27 load27 (.tmp 117) fb 3 (.slice none 0 0) rfl (by kernel_rfl) (show W.drew.cell? ⟨fb, 3, none⟩ = some (.slice none 0 0) from s3) ?_
      refine hK.out _ _ ⟨s5, s1⟩ (fun _ => ?_)
      clear hK K
      refine anyH_to { tmps := #[.pointer (some ⟨fb, 0, none⟩), .agg #[.int .u16 0, .int .u16 0, .int .u32 (cr : Int), .int .u32 46, .int .u32 46, .string nm, .int .u16 0, .int .u32 0], undef, .pointer (some ⟨w.heap.size, 0, none⟩), .slice (some ⟨g, 0, none⟩) 46 46, u5, u6, u7, u8, u9, u10, u11, u12, u13, u14, u15, u16, u17, u18, u19, u20, u21, u22, u23, u24, u25, u26, u27, u28, u29, u30, u31, u32, u33, u34, u35, u36, u37, u38, u39, u40, u41, u42, u43, u44, u45, u46, u47, u48, u49, u50, u51, u52, u53, u54, u55, u56, u57, u58, u59, u60, u61, u62, u63, u64, u65, u66, u67, u68, u69, u70, u71, u72, u73, u74, u75, u76, .slice (some ⟨g, 0, none⟩) 46 46, .int .i64 46, .pointer (some ⟨w.heap.size, 0, none⟩), .pointer (some ⟨w.heap.size, 2, none⟩), .pointer (some ⟨w.heap.size, 4, none⟩), .int .u32 46, .int .i64 46, .bool true, .bool true, .slice (some ⟨g, 0, none⟩) 46 46, .int .u32 (cr : Int), .pointer (some ⟨w.heap.size, 0, none⟩), .pointer (some ⟨w.heap.size, 2, none⟩), .pointer (some ⟨w.heap.size, 2, none⟩), .int .u32 (cr : Int), .bool true, .bool true, .tuple #[], .pointer (some ⟨w.heap.size, 0, none⟩), .agg #[.int .u16 0, .int .u16 0, .int .u32 (cr : Int), .int .u32 46, .int .u32 46, .string nm], .bool false, u98, u99, u100, u101, u102, u103, u104, .pointer (some ⟨fb, 0, none⟩), .pointer (some ⟨fb, 0, none⟩), .pointer (some ⟨fb, 4, none⟩), .int .i64 1000, .slice (some ⟨g, 0, none⟩) 46 46, .int .i64 46, .int .i64 954, .pointer (some ⟨fb, 0, none⟩), .pointer (some ⟨fb, 4, none⟩), .pointer (some ⟨fb, 0, none⟩), .pointer (some ⟨fb, 0, none⟩), .pointer (some ⟨fb, 0, none⟩), .pointer (some ⟨fb, 3, none⟩), .slice none 0 0, .pointer (some ⟨w.heap.size, 0, none⟩), .pointer (some ⟨w.heap.size, 5, none⟩), .string nm, .slice (some ⟨g, 0, none⟩) 46 46, .pointer (some ⟨w.heap.size, 0, none⟩), .pointer (some ⟨w.heap.size, 1, none⟩), .int .u16 0, .bool true, .agg #[.string nm, .slice (some ⟨g, 0, none⟩) 46 46, .bool true], u128, u129, u130, u131], defers := [] } (by kernel_rfl) ?_
      refine wpAnyH_ready (rs := [14]) (by kernel_rfl) (by simp) ?_
      refine AllReadyH.cons rfl (fun K hK => ?_) AllReadyH.nil
      rw [if_pos (by kernel_rfl)]
      refine wp_val (w' := (W.drew.alloc (.cells #[.string nm, .slice (some ⟨g, 0, none⟩) 46 46, .bool true] 29 (0, 0)))) (.slice (some ⟨W.heap.size, 0, none⟩) 1 1) (by kernel_rfl) ?_
      refine hK.out _ _ hS2 (fun _ => ?_)
      clear hK K
      generalize W.drew.alloc (.cells #[.string nm, .slice (some ⟨g, 0, none⟩) 46 46, .bool true] 29 (0, 0)) = W2 at *
      refine anyH_to { tmps := #[.pointer (some ⟨fb, 0, none⟩), .agg #[.int .u16 0, .int .u16 0, .int .u32 (cr : Int), .int .u32 46, .int .u32 46, .string nm, .int .u16 0, .int .u32 0], undef, .pointer (some ⟨w.heap.size, 0, none⟩), .slice (some ⟨g, 0, none⟩) 46 46, u5, u6, u7, u8, u9, u10, u11, u12, u13, u14, u15, u16, u17, u18, u19, u20, u21, u22, u23, u24, u25, u26, u27, u28, u29, u30, u31, u32, u33, u34, u35, u36, u37, u38, u39, u40, u41, u42, u43, u44, u45, u46, u47, u48, u49, u50, u51, u52, u53, u54, u55, u56, u57, u58, u59, u60, u61, u62, u63, u64, u65, u66, u67, u68, u69, u70, u71, u72, u73, u74, u75, u76, .slice (some ⟨g, 0, none⟩) 46 46, .int .i64 46, .pointer (some ⟨w.heap.size, 0, none⟩), .pointer (some ⟨w.heap.size, 2, none⟩), .pointer (some ⟨w.heap.size, 4, none⟩), .int .u32 46, .int .i64 46, .bool true, .bool true, .slice (some ⟨g, 0, none⟩) 46 46, .int .u32 (cr : Int), .pointer (some ⟨w.heap.size, 0, none⟩), .pointer (some ⟨w.heap.size, 2, none⟩), .pointer (some ⟨w.heap.size, 2, none⟩), .int .u32 (cr : Int), .bool true, .bool true, .tuple #[], .pointer (some ⟨w.heap.size, 0, none⟩), .agg #[.int .u16 0, .int .u16 0, .int .u32 (cr : Int), .int .u32 46, .int .u32 46, .string nm], .bool false, u98, u99, u100, u101, u102, u103, u104, .pointer (some ⟨fb, 0, none⟩), .pointer (some ⟨fb, 0, none⟩), .pointer (some ⟨fb, 4, none⟩), .int .i64 1000, .slice (some ⟨g, 0, none⟩) 46 46, .int .i64 46, .int .i64 954, .pointer (some ⟨fb, 0, none⟩), .pointer (some ⟨fb, 4, none⟩), .pointer (some ⟨fb, 0, none⟩), .pointer (some ⟨fb, 0, none⟩), .pointer (some ⟨fb, 0, none⟩), .pointer (some ⟨fb, 3, none⟩), .slice none 0 0, .pointer (some ⟨w.heap.size, 0, none⟩), .pointer (some ⟨w.heap.size, 5, none⟩), .string nm, .slice (some ⟨g, 0, none⟩) 46 46, .pointer (some ⟨w.heap.size, 0, none⟩), .pointer (some ⟨w.heap.size, 1, none⟩), .int .u16 0, .bool true, .agg #[.string nm, .slice (some ⟨g, 0, none⟩) 46 46, .bool true], .slice (some ⟨W.heap.size, 0, none⟩) 1 1, u129, u130, u131], defers := [] } (by kernel_rfl) ?_
      refine wpAnyH_ready (rs := [15]) (by kernel_rfl) (by simp) ?_
      refine AllReadyH.cons rfl (fun K hK => ?_) AllReadyH.nil
      rw [if_pos (by kernel_rfl)]
      refine wp_append (.tmp 118) (.tmp 128) 27 rfl w.heap.size 29 i0 (.agg #[.string ⟨#[]⟩, .slice none 0 0, .bool false]) 3 48 Tryz.underlying27 hi hz0 hz1 hz2 rfl (by decide) (.slice none 0 0) 0 [] (by kernel_rfl) (World.ownsRow_nil _ _ _ _) ⟨W.heap.size, 0, none⟩ 1 1 [.string nm, .slice (some ⟨g, 0, none⟩) 46 46, .bool true] (by kernel_rfl) rfl hn12 (by simp [Value.oneCell']) (by decide) (by decide) hsz12 ?_
      intro v' W3 hown3 hg3 hat3
      obtain ⟨lb, cp, cur, rfl, hlb, hlr, hlt3, hFz⟩ := grown_one hown3 hg3
      have hS3 : W3.cell? ⟨w.heap.size, 5, none⟩ = some (.string nm) ∧ W3.cell? ⟨w.heap.size, 1, none⟩ = some (.int .u16 0) := ⟨(hFz.cell (lt_of_cell hS2.1) id).trans hS2.1, (hFz.cell (lt_of_cell hS2.2) id).trans hS2.2⟩
      have hfb13 : W3.heap[fb]? = some (.cells #[.slice ao B.length cap, .int .i64 84, .int .i64 43, .slice none 0 0, .int .i64 954] 84 (0, 0)) := hFz.obj hfb12 id
      have hcell : W3.cell? ⟨fb, 3, none⟩ = some (.slice none 0 0) := cellOf hfb13 rfl
      have hfree : W3.frozen? ⟨fb, 3, none⟩ = false := freeOf 3 hfb13
      refine hK.out _ _ hS3 (fun hHeld3 => ?_)
      clear hK K
      refine anyH_to { tmps := #[.pointer (some ⟨fb, 0, none⟩), .agg #[.int .u16 0, .int .u16 0, .int .u32 (cr : Int), .int .u32 46, .int .u32 46, .string nm, .int .u16 0, .int .u32 0], undef, .pointer (some ⟨w.heap.size, 0, none⟩), .slice (some ⟨g, 0, none⟩) 46 46, u5, u6, u7, u8, u9, u10, u11, u12, u13, u14, u15, u16, u17, u18, u19, u20, u21, u22, u23, u24, u25, u26, u27, u28, u29, u30, u31, u32, u33, u34, u35, u36, u37, u38, u39, u40, u41, u42, u43, u44, u45, u46, u47, u48, u49, u50, u51, u52, u53, u54, u55, u56, u57, u58, u59, u60, u61, u62, u63, u64, u65, u66, u67, u68, u69, u70, u71, u72, u73, u74, u75, u76, .slice (some ⟨g, 0, none⟩) 46 46, .int .i64 46, .pointer (some ⟨w.heap.size, 0, none⟩), .pointer (some ⟨w.heap.size, 2, none⟩), .pointer (some ⟨w.heap.size, 4, none⟩), .int .u32 46, .int .i64 46, .bool true, .bool true, .slice (some ⟨g, 0, none⟩) 46 46, .int .u32 (cr : Int), .pointer (some ⟨w.heap.size, 0, none⟩), .pointer (some ⟨w.heap.size, 2, none⟩), .pointer (some ⟨w.heap.size, 2, none⟩), .int .u32 (cr : Int), .bool true, .bool true, .tuple #[], .pointer (some ⟨w.heap.size, 0, none⟩), .agg #[.int .u16 0, .int .u16 0, .int .u32 (cr : Int), .int .u32 46, .int .u32 46, .string nm], .bool false, u98, u99, u100, u101, u102, u103, u104, .pointer (some ⟨fb, 0, none⟩), .pointer (some ⟨fb, 0, none⟩), .pointer (some ⟨fb, 4, none⟩), .int .i64 1000, .slice (some ⟨g, 0, none⟩) 46 46, .int .i64 46, .int .i64 954, .pointer (some ⟨fb, 0, none⟩), .pointer (some ⟨fb, 4, none⟩), .pointer (some ⟨fb, 0, none⟩), .pointer (some ⟨fb, 0, none⟩), .pointer (some ⟨fb, 0, none⟩), .pointer (some ⟨fb, 3, none⟩), .slice none 0 0, .pointer (some ⟨w.heap.size, 0, none⟩), .pointer (some ⟨w.heap.size, 5, none⟩), .string nm, .slice (some ⟨g, 0, none⟩) 46 46, .pointer (some ⟨w.heap.size, 0, none⟩), .pointer (some ⟨w.heap.size, 1, none⟩), .int .u16 0, .bool true, .agg #[.string nm, .slice (some ⟨g, 0, none⟩) 46 46, .bool true], .slice (some ⟨W.heap.size, 0, none⟩) 1 1, .slice (some ⟨lb, 0, none⟩) 1 cp, u130, u131], defers := [] } (by kernel_rfl) ?_
      refine wpAnyH_take (i := 16) (v := .pointer (some ⟨fb, 0, none⟩)) rfl (by kernel_rfl) (by kernel_rfl) (by kernel_rfl) (fun _ _ _ h => h) (Or.inl ⟨by kernel_rfl, fun w hSw => by kernel_rfl⟩) hHeld3 ?_
      refine wpAnyH_take (i := 17) (v := .pointer (some ⟨fb, 3, none⟩)) rfl (by kernel_rfl) (by kernel_rfl) (by kernel_rfl) (fun _ _ _ h => h) (Or.inl ⟨by kernel_rfl, fun w hSw => by kernel_rfl⟩) hHeld3 ?_
      refine anyH_to { tmps := #[.pointer (some ⟨fb, 0, none⟩), .agg #[.int .u16 0, .int .u16 0, .int .u32 (cr : Int), .int .u32 46, .int .u32 46, .string nm, .int .u16 0, .int .u32 0], undef, .pointer (some ⟨w.heap.size, 0, none⟩), .slice (some ⟨g, 0, none⟩) 46 46, u5, u6, u7, u8, u9, u10, u11, u12, u13, u14, u15, u16, u17, u18, u19, u20, u21, u22, u23, u24, u25, u26, u27, u28, u29, u30, u31, u32, u33, u34, u35, u36, u37, u38, u39, u40, u41, u42, u43, u44, u45, u46, u47, u48, u49, u50, u51, u52, u53, u54, u55, u56, u57, u58, u59, u60, u61, u62, u63, u64, u65, u66, u67, u68, u69, u70, u71, u72, u73, u74, u75, u76, .slice (some ⟨g, 0, none⟩) 46 46, .int .i64 46, .pointer (some ⟨w.heap.size, 0, none⟩), .pointer (some ⟨w.heap.size, 2, none⟩), .pointer (some ⟨w.heap.size, 4, none⟩), .int .u32 46, .int .i64 46, .bool true, .bool true, .slice (some ⟨g, 0, none⟩) 46 46, .int .u32 (cr : Int), .pointer (some ⟨w.heap.size, 0, none⟩), .pointer (some ⟨w.heap.size, 2, none⟩), .pointer (some ⟨w.heap.size, 2, none⟩), .int .u32 (cr : Int), .bool true, .bool true, .tuple #[], .pointer (some ⟨w.heap.size, 0, none⟩), .agg #[.int .u16 0, .int .u16 0, .int .u32 (cr : Int), .int .u32 46, .int .u32 46, .string nm], .bool false, u98, u99, u100, u101, u102, u103, u104, .pointer (some ⟨fb, 0, none⟩), .pointer (some ⟨fb, 0, none⟩), .pointer (some ⟨fb, 4, none⟩), .int .i64 1000, .slice (some ⟨g, 0, none⟩) 46 46, .int .i64 46, .int .i64 954, .pointer (some ⟨fb, 0, none⟩), .pointer (some ⟨fb, 4, none⟩), .pointer (some ⟨fb, 0, none⟩), .pointer (some ⟨fb, 0, none⟩), .pointer (some ⟨fb, 0, none⟩), .pointer (some ⟨fb, 3, none⟩), .slice none 0 0, .pointer (some ⟨w.heap.size, 0, none⟩), .pointer (some ⟨w.heap.size, 5, none⟩), .string nm, .slice (some ⟨g, 0, none⟩) 46 46, .pointer (some ⟨w.heap.size, 0, none⟩), .pointer (some ⟨w.heap.size, 1, none⟩), .int .u16 0, .bool true, .agg #[.string nm, .slice (some ⟨g, 0, none⟩) 46 46, .bool true], .slice (some ⟨W.heap.size, 0, none⟩) 1 1, .slice (some ⟨lb, 0, none⟩) 1 cp, .pointer (some ⟨fb, 0, none⟩), .pointer (some ⟨fb, 3, none⟩)], defers := [] } (by kernel_rfl) ?_
      refine wpAnyH_ready (rs := [18]) (by kernel_rfl) (by simp) ?_
      refine AllReadyH.cons rfl (fun K hK => ?_) AllReadyH.nil
      rw [if_pos (by kernel_rfl)]
      refine wp_store27 (w := W3) (.tmp 131) (.tmp 129) fb 3 (some ⟨lb, 0, none⟩) 1 cp (.slice none 0 0) rfl (by kernel_rfl) (by kernel_rfl) hcell hfree ?_
      obtain ⟨q1, q2, q3, q4, q5, q6⟩ := added hfb13 hlr hlt3 hlb hfb (hFz.obj hM12 id) HG8.out (hF12.trans hFz.weak) (W3.cell? ⟨w.heap.size, 5, none⟩) (W3.cell? ⟨w.heap.size, 1, none⟩) rfl rfl
      refine hK.out _ _ ⟨q5.trans hS3.1, q6.trans hS3.2⟩ (fun _ => ?_)
      clear hK K
      refine wpAnyH_done (by kernel_rfl) ?_ _
      go_end0
      exact ⟨rfl, g, lb, cp, HEN0.out _ _ _ q1, q2, hlb, HG8.out, q3, q4⟩
    · refine AllReadyH.cons rfl (fun K hK => ?_) AllReadyH.nil
      rw [if_pos (by kernel_rfl)]
      refine wp_val (w' := (W.drew.alloc (.cells #[.string nm, .slice (some ⟨g, 0, none⟩) 46 46, .bool true] 29 (0, 0)))) (.slice (some ⟨W.heap.size, 0, none⟩) 1 1) (by kernel_rfl) ?_
      refine hK.out _ _ hS2 (fun _ => ?_)
      clear hK K
      refine anyH_to { tmps := #[.pointer (some ⟨fb, 0, none⟩), .agg #[.int .u16 0, .int .u16 0, .int .u32 (cr : Int), .int .u32 46, .int .u32 46, .string nm, .int .u16 0, .int .u32 0], undef, .pointer (some ⟨w.heap.size, 0, none⟩), .slice (some ⟨g, 0, none⟩) 46 46, u5, u6, u7, u8, u9, u10, u11, u12, u13, u14, u15, u16, u17, u18, u19, u20, u21, u22, u23, u24, u25, u26, u27, u28, u29, u30, u31, u32, u33, u34, u35, u36, u37, u38, u39, u40, u41, u42, u43, u44, u45, u46, u47, u48, u49, u50, u51, u52, u53, u54, u55, u56, u57, u58, u59, u60, u61, u62, u63, u64, u65, u66, u67, u68, u69, u70, u71, u72, u73, u74, u75, u76, .slice (some ⟨g, 0, none⟩) 46 46, .int .i64 46, .pointer (some ⟨w.heap.size, 0, none⟩), .pointer (some ⟨w.heap.size, 2, none⟩), .pointer (some ⟨w.heap.size, 4, none⟩), .int .u32 46, .int .i64 46, .bool true, .bool true, .slice (some ⟨g, 0, none⟩) 46 46, .int .u32 (cr : Int), .pointer (some ⟨w.heap.size, 0, none⟩), .pointer (some ⟨w.heap.size, 2, none⟩), .pointer (some ⟨w.heap.size, 2, none⟩), .int .u32 (cr : Int), .bool true, .bool true, .tuple #[], .pointer (some ⟨w.heap.size, 0, none⟩), .agg #[.int .u16 0, .int .u16 0, .int .u32 (cr : Int), .int .u32 46, .int .u32 46, .string nm], .bool false, u98, u99, u100, u101, u102, u103, u104, .pointer (some ⟨fb, 0, none⟩), .pointer (some ⟨fb, 0, none⟩), .pointer (some ⟨fb, 4, none⟩), .int .i64 1000, .slice (some ⟨g, 0, none⟩) 46 46, .int .i64 46, .int .i64 954, .pointer (some ⟨fb, 0, none⟩), .pointer (some ⟨fb, 4, none⟩), .pointer (some ⟨fb, 0, none⟩), .pointer (some ⟨fb, 0, none⟩), .pointer (some ⟨fb, 0, none⟩), .pointer (some ⟨fb, 3, none⟩), u118, .pointer (some ⟨w.heap.size, 0, none⟩), .pointer (some ⟨w.heap.size, 5, none⟩), .string nm, .slice (some ⟨g, 0, none⟩) 46 46, .pointer (some ⟨w.heap.size, 0, none⟩), .pointer (some ⟨w.heap.size, 1, none⟩), .int .u16 0, .bool true, .agg #[.string nm, .slice (some ⟨g, 0, none⟩) 46 46, .bool true], .slice (some ⟨W.heap.size, 0, none⟩) 1 1, u129, u130, u131], defers := [] } (by kernel_rfl) ?_
      refine wpAnyH_ready (rs := [4]) (by kernel_rfl) (by simp) ?_
      refine AllReadyH.cons rfl (fun K hK => ?_) AllReadyH.nil
      rw [if_pos (by kernel_rfl)]
      refine wp_loadOf 27 load27 (.tmp 117) fb 3 (.slice none 0 0) rfl (by kernel_rfl) hS23 ?_
      refine hK.out _ _ hS2 (fun _ => ?_)
      clear hK K
      generalize W.drew.alloc (.cells #[.string nm, .slice (some ⟨g, 0, none⟩) 46 46, .bool true] 29 (0, 0)) = W2 at *
      refine anyH_to { tmps := #[.pointer (some ⟨fb, 0, none⟩), .agg #[.int .u16 0, .int .u16 0, .int .u32 (cr : Int), .int .u32 46, .int .u32 46, .string nm, .int .u16 0, .int .u32 0], undef, .pointer (some ⟨w.heap.size, 0, none⟩), .slice (some ⟨g, 0, none⟩) 46 46, u5, u6, u7, u8, u9, u10, u11, u12, u13, u14, u15, u16, u17, u18, u19, u20, u21, u22, u23, u24, u25, u26, u27, u28, u29, u30, u31, u32, u33, u34, u35, u36, u37, u38, u39, u40, u41, u42, u43, u44, u45, u46, u47, u48, u49, u50, u51, u52, u53, u54, u55, u56, u57, u58, u59, u60, u61, u62, u63, u64, u65, u66, u67, u68, u69, u70, u71, u72, u73, u74, u75, u76, .slice (some ⟨g, 0, none⟩) 46 46, .int .i64 46, .pointer (some ⟨w.heap.size, 0, none⟩), .pointer (some ⟨w.heap.size, 2, none⟩), .pointer (some ⟨w.heap.size, 4, none⟩), .int .u32 46, .int .i64 46, .bool true, .bool true, .slice (some ⟨g, 0, none⟩) 46 46, .int .u32 (cr : Int), .pointer (some ⟨w.heap.size, 0, none⟩), .pointer (some ⟨w.heap.size, 2, none⟩), .pointer (some ⟨w.heap.size, 2, none⟩), .int .u32 (cr : Int), .bool true, .bool true, .tuple #[], .pointer (some ⟨w.heap.size, 0, none⟩), .agg #[.int .u16 0, .int .u16 0, .int .u32 (cr : Int), .int .u32 46, .int .u32 46, .string nm], .bool false, u98, u99, u100, u101, u102, u103, u104, .pointer (some ⟨fb, 0, none⟩), .pointer (some ⟨fb, 0, none⟩), .pointer (some ⟨fb, 4, none⟩), .int .i64 1000, .slice (some ⟨g, 0, none⟩) 46 46, .int .i64 46, .int .i64 954, .pointer (some ⟨fb, 0, none⟩), .pointer (some ⟨fb, 4, none⟩), .pointer (some ⟨fb, 0, none⟩), .pointer (some ⟨fb, 0, none⟩), .pointer (some ⟨fb, 0, none⟩), .pointer (some ⟨fb, 3, none⟩), .slice none 0 0, .pointer (some ⟨w.heap.size, 0, none⟩), .pointer (some ⟨w.heap.size, 5, none⟩), .string nm, .slice (some ⟨g, 0, none⟩) 46 46, .pointer (some ⟨w.heap.size, 0, none⟩), .pointer (some ⟨w.heap.size, 1, none⟩), .int .u16 0, .bool true, .agg #[.string nm, .slice (some ⟨g, 0, none⟩) 46 46, .bool true], .slice (some ⟨W.heap.size, 0, none⟩) 1 1, u129, u130, u131], defers := [] } (by kernel_rfl) ?_
      refine wpAnyH_ready (rs := [15]) (by kernel_rfl) (by simp) ?_
      refine AllReadyH.cons rfl (fun K hK => ?_) AllReadyH.nil
      rw [if_pos (by kernel_rfl)]
      refine wp_append (.tmp 118) (.tmp 128) 27 rfl w.heap.size 29 i0 (.agg #[.string ⟨#[]⟩, .slice none 0 0, .bool false]) 3 48 Tryz.underlying27 hi hz0 hz1 hz2 rfl (by decide) (.slice none 0 0) 0 [] (by kernel_rfl) (World.ownsRow_nil _ _ _ _) ⟨W.heap.size, 0, none⟩ 1 1 [.string nm, .slice (some ⟨g, 0, none⟩) 46 46, .bool true] (by kernel_rfl) rfl hn12 (by simp [Value.oneCell']) (by decide) (by decide) hsz12 ?_
      intro v' W3 hown3 hg3 hat3
      obtain ⟨lb, cp, cur, rfl, hlb, hlr, hlt3, hFz⟩ := grown_one hown3 hg3
      have hS3 : W3.cell? ⟨w.heap.size, 5, none⟩ = some (.string nm) ∧ W3.cell? ⟨w.heap.size, 1, none⟩ = some (.int .u16 0) := ⟨(hFz.cell (lt_of_cell hS2.1) id).trans hS2.1, (hFz.cell (lt_of_cell hS2.2) id).trans hS2.2⟩
      have hfb13 : W3.heap[fb]? = some (.cells #[.slice ao B.length cap, .int .i64 84, .int .i64 43, .slice none 0 0, .int .i64 954] 84 (0, 0)) := hFz.obj hfb12 id
      have hcell : W3.cell? ⟨fb, 3, none⟩ = some (.slice none 0 0) := cellOf hfb13 rfl
      have hfree : W3.frozen? ⟨fb, 3, none⟩ = false := freeOf 3 hfb13
      refine hK.out _ _ hS3 (fun hHeld3 => ?_)
      clear hK K
      refine anyH_to { tmps := #[.pointer (some ⟨fb, 0, none⟩), .agg #[.int .u16 0, .int .u16 0, .int .u32 (cr : Int), .int .u32 46, .int .u32 46, .string nm, .int .u16 0, .int .u32 0], undef, .pointer (some ⟨w.heap.size, 0, none⟩), .slice (some ⟨g, 0, none⟩) 46 46, u5, u6, u7, u8, u9, u10, u11, u12, u13, u14, u15, u16, u17, u18, u19, u20, u21, u22, u23, u24, u25, u26, u27, u28, u29, u30, u31, u32, u33, u34, u35, u36, u37, u38, u39, u40, u41, u42, u43, u44, u45, u46, u47, u48, u49, u50, u51, u52, u53, u54, u55, u56, u57, u58, u59, u60, u61, u62, u63, u64, u65, u66, u67, u68, u69, u70, u71, u72, u73, u74, u75, u76, .slice (some ⟨g, 0, none⟩) 46 46, .int .i64 46, .pointer (some ⟨w.heap.size, 0, none⟩), .pointer (some ⟨w.heap.size, 2, none⟩), .pointer (some ⟨w.heap.size, 4, none⟩), .int .u32 46, .int .i64 46, .bool true, .bool true, .slice (some ⟨g, 0, none⟩) 46 46, .int .u32 (cr : Int), .pointer (some ⟨w.heap.size, 0, none⟩), .pointer (some ⟨w.heap.size, 2, none⟩), .pointer (some ⟨w.heap.size, 2, none⟩), .int .u32 (cr : Int), .bool true, .bool true, .tuple #[], .pointer (some ⟨w.heap.size, 0, none⟩), .agg #[.int .u16 0, .int .u16 0, .int .u32 (cr : Int), .int .u32 46, .int .u32 46, .string nm], .bool false, u98, u99, u100, u101, u102, u103, u104, .pointer (some ⟨fb, 0, none⟩), .pointer (some ⟨fb, 0, none⟩), .pointer (some ⟨fb, 4, none⟩), .int .i64 1000, .slice (some ⟨g, 0, none⟩) 46 46, .int .i64 46, .int .i64 954, .pointer (some ⟨fb, 0, none⟩), .pointer (some ⟨fb, 4, none⟩), .pointer (some ⟨fb, 0, none⟩), .pointer (some ⟨fb, 0, none⟩), .pointer (some ⟨fb, 0, none⟩), .pointer (some ⟨fb, 3, none⟩), .slice none 0 0, .pointer (some ⟨w.heap.size, 0, none⟩), .pointer (some ⟨w.heap.size, 5, none⟩), .string nm, .slice (some ⟨g, 0, none⟩) 46 46, .pointer (some ⟨w.heap.size, 0, none⟩), .pointer (some ⟨w.heap.size, 1, none⟩), .int .u16 0, .bool true, .agg #[.string nm, .slice (some ⟨g, 0, none⟩) 46 46, .bool true], .slice (some ⟨W.heap.size, 0, none⟩) 1 1, .slice (some ⟨lb, 0, none⟩) 1 cp, u130, u131], defers := [] } (by kernel_rfl) ?_
      refine wpAnyH_take (i := 16) (v := .pointer (some ⟨fb, 0, none⟩)) rfl (by kernel_rfl) (by kernel_rfl) (by kernel_rfl) (fun _ _ _ h => h) (Or.inl ⟨by kernel_rfl, fun w hSw => by kernel_rfl⟩) hHeld3 ?_
      refine wpAnyH_take (i := 17) (v := .pointer (some ⟨fb, 3, none⟩)) rfl (by kernel_rfl) (by kernel_rfl) (by kernel_rfl) (fun _ _ _ h => h) (Or.inl ⟨by kernel_rfl, fun w hSw => by kernel_rfl⟩) hHeld3 ?_
      refine anyH_to { tmps := #[.pointer (some ⟨fb, 0, none⟩), .agg #[.int .u16 0, .int .u16 0, .int .u32 (cr : Int), .int .u32 46, .int .u32 46, .string nm, .int .u16 0, .int .u32 0], undef, .pointer (some ⟨w.heap.size, 0, none⟩), .slice (some ⟨g, 0, none⟩) 46 46, u5, u6, u7, u8, u9, u10, u11, u12, u13, u14, u15, u16, u17, u18, u19, u20, u21, u22, u23, u24, u25, u26, u27, u28, u29, u30, u31, u32, u33, u34, u35, u36, u37, u38, u39, u40, u41, u42, u43, u44, u45, u46, u47, u48, u49, u50, u51, u52, u53, u54, u55, u56, u57, u58, u59, u60, u61, u62, u63, u64, u65, u66, u67, u68, u69, u70, u71, u72, u73, u74, u75, u76, .slice (some ⟨g, 0, none⟩) 46 46, .int .i64 46, .pointer (some ⟨w.heap.size, 0, none⟩), .pointer (some ⟨w.heap.size, 2, none⟩), .pointer (some ⟨w.heap.size, 4, none⟩), .int .u32 46, .int .i64 46, .bool true, .bool true, .slice (some ⟨g, 0, none⟩) 46 46, .int .u32 (cr : Int), .pointer (some ⟨w.heap.size, 0, none⟩), .pointer (some ⟨w.heap.size, 2, none⟩), .pointer (some ⟨w.heap.size, 2, none⟩), .int .u32 (cr : Int), .bool true, .bool true, .tuple #[], .pointer (some ⟨w.heap.size, 0, none⟩), .agg #[.int .u16 0, .int .u16 0, .int .u32 (cr : Int), .int .u32 46, .int .u32 46, .string nm], .bool false, u98, u99, u100, u101, u102, u103, u104, .pointer (some ⟨fb, 0, none⟩), .pointer (some ⟨fb, 0, none⟩), .pointer (some ⟨fb, 4, none⟩), .int .i64 1000, .slice (some ⟨g, 0, none⟩) 46 46, .int .i64 46, .int .i64 954, .pointer (some ⟨fb, 0, none⟩), .pointer (some ⟨fb, 4, none⟩), .pointer (some ⟨fb, 0, none⟩), .pointer (some ⟨fb, 0, none⟩), .pointer (some ⟨fb, 0, none⟩), .pointer (some ⟨fb, 3, none⟩), .slice none 0 0, .pointer (some ⟨w.heap.size, 0, none⟩), .pointer (some ⟨w.heap.size, 5, none⟩), .string nm, .slice (some ⟨g, 0, none⟩) 46 46, .pointer (some ⟨w.heap.size, 0, none⟩), .pointer (some ⟨w.heap.size, 1, none⟩), .int .u16 0, .bool true, .agg #[.string nm, .slice (some ⟨g, 0, none⟩) 46 46, .bool true], .slice (some ⟨W.heap.size, 0, none⟩) 1 1, .slice (some ⟨lb, 0, none⟩) 1 cp, .pointer (some ⟨fb, 0, none⟩), .pointer (some ⟨fb, 3, none⟩)], defers := [] } (by kernel_rfl) ?_
      refine wpAnyH_ready (rs := [18]) (by kernel_rfl) (by simp) ?_
      refine AllReadyH.cons rfl (fun K hK => ?_) AllReadyH.nil
      rw [if_pos (by kernel_rfl)]
      refine wp_store27 (w := W3) (.tmp 131) (.tmp 129) fb 3 (some ⟨lb, 0, none⟩) 1 cp (.slice none 0 0) rfl (by kernel_rfl) (by kernel_rfl) hcell hfree ?_
      obtain ⟨q1, q2, q3, q4, q5, q6⟩ := added hfb13 hlr hlt3 hlb hfb (hFz.obj hM12 id) HG8.out (hF12.trans hFz.weak) (W3.cell? ⟨w.heap.size, 5, none⟩) (W3.cell? ⟨w.heap.size, 1, none⟩) rfl rfl
      refine hK.out _ _ ⟨q5.trans hS3.1, q6.trans hS3.2⟩ (fun _ => ?_)
      clear hK K
      refine wpAnyH_done (by kernel_rfl) ?_ _
      go_end0
      exact ⟨rfl, g, lb, cp, HEN0.out _ _ _ q1, q2, hlb, HG8.out, q3, q4⟩
#print axioms add_mime
end Go.Proofs.YtlhikoomghbnjaaGreatDoor
