/- The file of the mimetype alone: zip.fileOf and zip.Write. -/
import Derived.Test.YtlhikoomghbnjaaGreatDoorZWri
import Derived.Deep.DeepCutAuto
namespace Go.Proofs.YtlhikoomghbnjaaGreatDoor
open Go.RowKit
attribute [local go_sem ↓] Go.wp_at_zero Go.wp_at_succ

theorem two_newB (w : World) (o1 o2 : Obj) : ((w.alloc o1).alloc o2).heap[w.heap.size]? = some o1 ∧ ((w.alloc o1).alloc o2).heap[w.heap.size + 1]? = some o2 ∧ Fr noB w ((w.alloc o1).alloc o2) := by
  have e1 : (w.alloc o1).heap.size = w.heap.size + 1 := by simp
  refine ⟨?_, ?_, ((Fr.refl noB w).alloc o1).alloc o2⟩
  · rw [Below.heap_alloc _ _ _ (by omega)]
    exact heap_alloc_new _ _
  · rw [← e1]
    exact heap_alloc_new _ _
/-- An output that has nothing yet. -/
theorem OutIs.none {w : World} {ob : Nat} (h : w.heap[ob]? = some (.cells #[.slice none 0 0] 63 (0, 0))) : OutIs w ob w.heap.size (.slice none 0 0) [] :=
  ⟨h, World.ownsRow_nil w w.heap.size 5 1, lt_of_block h, Nat.le_refl _⟩
theorem OutIs.other {w w' : World} {f d base : Nat} {v : Value} {B : List Nat} {c : Array Value} (h : OutIs w f base v B) (hF : Fr (outS w d w.heap.size) w w') (hd : w.heap[d]? = some (.cells c 63 (0, 0))) (hne : f ≠ d) : OutIs w' f base v B :=
  h.keep hF (fun hs => by
    rcases hs with hs | ⟨hs, _⟩
    · exact hne hs
    · have := lt_of_block h.at_
      omega) (fun k cur hk hh hs => by
    rcases hs with hs | ⟨hs, _⟩
    · subst hs
      rw [hd] at hh
      cases hh
    · have := lt_of_block hh
      omega)
theorem Fr.out {w w1 w2 : World} {ob base : Nat} (h : Fr noB w w1) (k : Fr (outS w1 ob base) w1 w2) (h1 : w.heap.size ≤ ob) (h2 : w.heap.size ≤ base) : Fr noB w w2 :=
  h.then k (fun i hi => by
    right
    rcases hi with hi | ⟨hi, _⟩
    · omega
    · omega)

set_option maxRecDepth 100000 in
set_option maxHeartbeats 1600000 in
theorem fileOf_mime (lb db : Nat) (w : World) (h1 : OneAt w lb db) (h2 : MimeF w db) :
    Calls Tryz.prog 24 #[.slice (some ⟨lb, 0, none⟩) 1 1] w fun e w' => ∃ v, e = .returned v ∧ w'.ownsRow w.heap.size 5 1 v mimeF.length (byteVals mimeF) ∧ Fr noB w w' := by
  obtain ⟨hf0, hd0, hF0⟩ := two_newB w (.cells #[.slice none 0 0] 63 (0, 0)) (.cells #[.slice none 0 0] 63 (0, 0))
  have HF0 : Hid _ := hF0
  have Hf0 : Hid _ := hf0
  have Hd0 : Hid _ := hd0
  have l1 := hF0.obj h1 id
  have c0 : ((w.alloc (.cells #[.slice none 0 0] 63 (0, 0))).alloc (.cells #[.slice none 0 0] 63 (0, 0))).cell? ⟨lb, 0, none⟩ = some (.string mimeN) := cellOf l1 rfl
  have c1 : ((w.alloc (.cells #[.slice none 0 0] 63 (0, 0))).alloc (.cells #[.slice none 0 0] 63 (0, 0))).cell? ⟨lb, 1, none⟩ = some (.slice (some ⟨db, 0, none⟩) 46 46) := cellOf l1 rfl
  have c2 : ((w.alloc (.cells #[.slice none 0 0] 63 (0, 0))).alloc (.cells #[.slice none 0 0] 63 (0, 0))).cell? ⟨lb, 2, none⟩ = some (.bool true) := cellOf l1 rfl
  have HLY : Hid (∀ w', Calls Tryz.prog 30 #[.agg #[.string mimeN, .slice (some ⟨db, 0, none⟩) 46 46, .bool true]] w' fun e w'' => e = .returned (.slice (some ⟨db, 0, none⟩) 46 46) ∧ Fr noB w' w'') := fun w' => lying_mime db w'
  have HHD : Hid (∀ w', Fr noB w w' → Calls Tryz.prog 31 #[.agg #[.string mimeN, .slice (some ⟨db, 0, none⟩) 46 46, .bool true], .int .i64 46] w' fun e w'' => e = .returned (.agg #[.int .u16 0, .int .u16 0, .int .u32 ((crc mimeB : Nat) : Int), .int .u32 46, .int .u32 46, .string mimeN]) ∧ Fr noB w' w'') := fun w' hF => headOf_mime db w' (h2.fr hF id)
  have HBS : Hid (∀ (S : Nat → Prop) w', Fr S w w' → ¬ S db → Bs w' (.slice (some ⟨db, 0, none⟩) 46 46) mimeB) := fun S w' hF hn => (h2.fr hF hn).bs
  have hdb : db < w.heap.size := h2.lt
  have hcr : crc mimeB < 4294967296 := by unfold crc; omega
  have hnm : mimeN.size = 8 := by decide
  clear l1 h1 h2 hf0 hd0 hF0
  obtain ⟨nm, en⟩ : ∃ nm, mimeN = nm := ⟨_, rfl⟩
  obtain ⟨cr, ec⟩ : ∃ cr, crc mimeB = cr := ⟨_, rfl⟩
  have HM : Hid (mimeF = localB 0 0 cr 46 46 nm ++ mimeB ++ recordB 0 0 cr 46 46 nm 0 0 ++ endB 1 54 84) := by
    show mimeF = _
    unfold mimeF
    rw [en, ec]
  rw [en] at c0 HLY HHD hnm
  rw [ec] at HHD hcr
  clear en ec
  go_enter Tryz.func24, Tryz.ntmps24
  go_wp2_with fail
  generalize (w.alloc (.cells #[.slice none 0 0] 63 (0, 0))).alloc (.cells #[.slice none 0 0] 63 (0, 0)) = w0 at *
  go_loopg [12] 2 (fun gh iv wr => (gh = 2 ∧ wr = w0 ∧ iv = .int .i64 0) ∨ (gh = 1 ∧ iv = .int .i64 1 ∧ ∃ base bd vf vd, OutIs wr w.heap.size base vf (localB 0 0 (cr) 46 46 nm ++ mimeB) ∧ OutIs wr (w.heap.size + 1) bd vd (recordB 0 0 (cr) 46 46 nm 0 0) ∧ Fr noB w wr ∧ w.heap.size ≤ base))
  case atStart => exact Or.inl ⟨rfl, rfl, rfl⟩
  case round =>
    rcases hrel with ⟨rfl, rfl, rfl⟩ | ⟨rfl, rfl, base, bd, vf, vd, hof, hod, hF, hbase⟩
    · have hx0 := heap_alloc_new wr (.cells #[.string nm, .slice (some ⟨db, 0, none⟩) 46 46, .bool true] 29 (0, 0))
      have hFx := (Fr.refl noB wr).alloc (.cells #[.string nm, .slice (some ⟨db, 0, none⟩) 46 46, .bool true] 29 (0, 0))
      have HX0 : Hid _ := hx0
      have HFX : Hid _ := hFx
      clear hx0 hFx
      go_wp2_with (go_at_call 30; refine (HLY.out _).mono ?_; rintro e w1 ⟨rfl, hF1⟩)
      have hFw1 : Fr noB wr w1 := HFX.out.trans hF1
      have x0 : w1.cell? ⟨wr.heap.size, 0, none⟩ = some (.string nm) := cellOf (hF1.obj HX0.out id) rfl
      have x1 : w1.cell? ⟨wr.heap.size, 1, none⟩ = some (.slice (some ⟨db, 0, none⟩) 46 46) := cellOf (hF1.obj HX0.out id) rfl
      have x2 : w1.cell? ⟨wr.heap.size, 2, none⟩ = some (.bool true) := cellOf (hF1.obj HX0.out id) rfl
      have f0 : w1.cell? ⟨w.heap.size, 0, none⟩ = some (.slice none 0 0) := cellOf (hFw1.obj Hf0.out id) rfl
      have HFW1 : Hid _ := hFw1
      clear hF1 hFw1
      have HS : Hid (∀ w', Fr noB w1 w' → w'.cell? ⟨wr.heap.size, 0, none⟩ = some (.string nm) ∧ w'.cell? ⟨wr.heap.size, 1, none⟩ = some (.slice (some ⟨db, 0, none⟩) 46 46) ∧ w'.cell? ⟨wr.heap.size, 2, none⟩ = some (.bool true) ∧ w'.cell? ⟨w.heap.size, 0, none⟩ = some (.slice none 0 0)) := fun w' hF => ⟨(hF.cell (lt_of_cell x0) id).trans x0, (hF.cell (lt_of_cell x1) id).trans x1, (hF.cell (lt_of_cell x2) id).trans x2, (hF.cell (lt_of_cell f0) id).trans f0⟩
      have hsz1 := HFW1.out.size
      have HF1 : Fr noB w w1 := HF0.out.trans HFW1.out
      have hw0 : IntKind.u32.wrap 0 = 0 := by decide
      go_cut [8] (fun v wc => ∃ rk, v = .pointer (some ⟨rk, 0, none⟩) ∧ wr.heap.size ≤ rk ∧ wc.heap[rk]? = some (.cells #[.int .u16 0, .int .u16 0, .int .u32 (cr : Int), .int .u32 46, .int .u32 46, .string nm, .int .u16 0, .int .u32 0] 72 (0, 0)) ∧ Fr noB wr wc)
      case first =>
        go_region_held3 (fun w' => w'.cell? ⟨wr.heap.size, 0, none⟩ = some (.string nm) ∧ w'.cell? ⟨wr.heap.size, 1, none⟩ = some (.slice (some ⟨db, 0, none⟩) 46 46) ∧ w'.cell? ⟨wr.heap.size, 2, none⟩ = some (.bool true) ∧ w'.cell? ⟨w.heap.size, 0, none⟩ = some (.slice none 0 0))
          (exact HS.out _ (by repeat' first | with_reducible exact hFz | with_reducible exact Fr.refl _ _ | exact Or.inr (Nat.le_refl w1.heap.size) | with_reducible refine Fr.setCell ?_ _ ?_ _ | with_reducible refine Fr.alloc ?_ _ | with_reducible refine Fr.drew ?_))
          (first | (go_at_call 31; refine (HHD.out _ (by repeat' first | with_reducible exact HF1 | with_reducible refine Fr.alloc ?_ _ | with_reducible refine Fr.drew ?_)).mono ?_; rintro e w2 ⟨rfl, hF2⟩; have hFz : Fr noB w1 w2 := Fr.trans (by repeat' first | with_reducible exact Fr.refl _ _ | with_reducible refine Fr.alloc ?_ _ | with_reducible refine Fr.drew ?_) hF2; try (have hz : w2.heap[w1.heap.size]? = some (.cells #[.int .u16 0, .int .u16 0, .int .u32 0, .int .u32 0, .int .u32 0, .string ⟨#[]⟩, .int .u16 0, .int .u32 0] 72 (0, 0)) := hF2.obj (heap_alloc_new (w1.drew) _) id; have q0 : w2.cell? ⟨w1.heap.size, 0, none⟩ = some (.int .u16 0) := cellOf hz rfl; have q1 : w2.cell? ⟨w1.heap.size, 1, none⟩ = some (.int .u16 0) := cellOf hz rfl; have q2 : w2.cell? ⟨w1.heap.size, 2, none⟩ = some (.int .u32 0) := cellOf hz rfl; have q3 : w2.cell? ⟨w1.heap.size, 3, none⟩ = some (.int .u32 0) := cellOf hz rfl; have q4 : w2.cell? ⟨w1.heap.size, 4, none⟩ = some (.int .u32 0) := cellOf hz rfl; have q5 : w2.cell? ⟨w1.heap.size, 5, none⟩ = some (.string ⟨#[]⟩) := cellOf hz rfl; have q6 : w2.cell? ⟨w1.heap.size, 6, none⟩ = some (.int .u16 0) := cellOf hz rfl; have q7 : w2.cell? ⟨w1.heap.size, 7, none⟩ = some (.int .u32 0) := cellOf hz rfl; have e0 : w2.frozen? ⟨w1.heap.size, 0, none⟩ = false := freeOf 0 hz; have e1 : w2.frozen? ⟨w1.heap.size, 1, none⟩ = false := freeOf 1 hz; have e2 : w2.frozen? ⟨w1.heap.size, 2, none⟩ = false := freeOf 2 hz; have e3 : w2.frozen? ⟨w1.heap.size, 3, none⟩ = false := freeOf 3 hz; have e4 : w2.frozen? ⟨w1.heap.size, 4, none⟩ = false := freeOf 4 hz; have e5 : w2.frozen? ⟨w1.heap.size, 5, none⟩ = false := freeOf 5 hz; have e6 : w2.frozen? ⟨w1.heap.size, 6, none⟩ = false := freeOf 6 hz; have e7 : w2.frozen? ⟨w1.heap.size, 7, none⟩ = false := freeOf 7 hz)))
        · go_wp2_with fail
          go_meet
          exact ⟨w2.heap.size, rfl, Nat.le_trans (HFW1.out).size hFz.size, heap_alloc_new _ _, (HFW1.out.trans hFz).alloc _⟩
        · go_wp2_with fail
          go_meet
          have hch := setOf 7 (.int .u32 0) (setOf 6 (.int .u16 0) (setOf 5 (.string nm) (setOf 4 (.int .u32 46) (setOf 3 (.int .u32 46) (setOf 2 (.int .u32 (cr : Int)) (setOf 1 (.int .u16 0) (setOf 0 (.int .u16 0) hz)))))))
          refine ⟨w1.heap.size, rfl, (HFW1.out).size, hch, ?_⟩
          have hle : wr.heap.size ≤ w1.heap.size := (HFW1.out).size
          have hfr : Fr noB wr w2 := HFW1.out.trans hFz
          repeat' first | with_reducible exact hfr | exact Or.inr hle | with_reducible refine Fr.setCell ?_ _ ?_ _
      case rest =>
        obtain ⟨rk, rfl, hrk, hrec, hFc⟩ := hcut
        clear HS x0 x1 x2 f0 hsz1 hw0 HLY HHD HFX HX0 HF1
        have hFwc : Fr noB w wc := HF0.out.trans hFc
        have hfc := hFc.obj Hf0.out id
        have hdc := hFc.obj Hd0.out id
        have hwsz := HF0.out.size
        have hwr2 : w.heap.size + 1 < wr.heap.size := lt_of_block Hd0.out
        have hoc := OutIs.none hfc
        have r0 : wc.cell? ⟨rk, 0, none⟩ = some (.int .u16 0) := cellOf hrec rfl
        have r1 : wc.cell? ⟨rk, 1, none⟩ = some (.int .u16 0) := cellOf hrec rfl
        have r2 : wc.cell? ⟨rk, 2, none⟩ = some (.int .u32 (cr : Int)) := cellOf hrec rfl
        have r3 : wc.cell? ⟨rk, 3, none⟩ = some (.int .u32 46) := cellOf hrec rfl
        have r4 : wc.cell? ⟨rk, 4, none⟩ = some (.int .u32 46) := cellOf hrec rfl
        have r5 : wc.cell? ⟨rk, 5, none⟩ = some (.string nm) := cellOf hrec rfl
        have C1 := olocal_any w.heap.size wc.heap.size 0 0 cr 46 46 nm _ [] wc hoc (by decide) (by decide) hcr (by decide) (by decide) (by omega) (by simp; omega)
        unfold hdV at C1
        rw [List.nil_append] at C1
        have HRC : Hid _ := hrec
        have HDC : Hid _ := hdc
        have HFWC : Hid _ := hFwc
        clear hrec hdc hfc hoc
        go_wp2_with fail
        refine C1.mono ?_
        rintro e w3 ⟨rfl, v3, ho3, hF3⟩
        have hrec3 := box_keep HRC.out hF3 (by decide) (by omega)
        have hdc3 := box_keep HDC.out hF3 (by decide) (by omega)
        have hszc := hFwc.size
        have hszr := hFc.size
        have hFw3 : Fr noB w w3 := HFWC.out.out hF3 (by omega) (by omega)
        have C2 := raw_any w.heap.size wc.heap.size v3 (.slice (some ⟨db, 0, none⟩) 46 46) _ mimeB w3 ho3 (HBS.out noB w3 hFw3 id) (by rw [localB_length]; show _ + 46 ≤ _; omega)
        have HR3 : Hid _ := hrec3
        have HD3 : Hid _ := hdc3
        have HFW3 : Hid _ := hFw3
        clear hrec3 hdc3 ho3 hF3
        go_wp2_with fail
        refine C2.mono ?_
        rintro e w4 ⟨rfl, v4, ho4, hF4⟩
        have hrec4 := box_keep HR3.out hF4 (by decide) (by omega)
        have hdc4 := box_keep HD3.out hF4 (by decide) (by omega)
        have hFw4 : Fr noB w w4 := HFW3.out.out hF4 (by omega) (by omega)
        have hod4 := OutIs.none hdc4
        have hsz4 := hFw4.size
        have q0 : w4.cell? ⟨rk, 0, none⟩ = some (.int .u16 0) := cellOf hrec4 rfl
        have q1 : w4.cell? ⟨rk, 1, none⟩ = some (.int .u16 0) := cellOf hrec4 rfl
        have q2 : w4.cell? ⟨rk, 2, none⟩ = some (.int .u32 (cr : Int)) := cellOf hrec4 rfl
        have q3 : w4.cell? ⟨rk, 3, none⟩ = some (.int .u32 46) := cellOf hrec4 rfl
        have q4 : w4.cell? ⟨rk, 4, none⟩ = some (.int .u32 46) := cellOf hrec4 rfl
        have q5 : w4.cell? ⟨rk, 5, none⟩ = some (.string nm) := cellOf hrec4 rfl
        have q6 : w4.cell? ⟨rk, 6, none⟩ = some (.int .u16 0) := cellOf hrec4 rfl
        have q7 : w4.cell? ⟨rk, 7, none⟩ = some (.int .u32 0) := cellOf hrec4 rfl
        have C3 := orecord_any (w.heap.size + 1) w4.heap.size 0 0 cr 46 46 0 0 nm _ [] w4 hod4 (by decide) (by decide) hcr (by decide) (by decide) (by omega) (by decide) (by decide) (by simp; omega)
        unfold recV at C3
        rw [List.nil_append] at C3
        have HO4 : Hid _ := ho4
        have HD4 : Hid _ := hdc4
        have HFW4 : Hid _ := hFw4
        clear hrec4 hdc4 ho4 hF4 hod4 r0 r1 r2 r3 r4 r5
        go_wp2_with fail
        refine C3.mono ?_
        rintro e w5 ⟨rfl, v5, ho5, hF5⟩
        have hof5 := OutIs.other HO4.out hF5 HD4.out (by omega)
        have hFw5 : Fr noB w w5 := HFW4.out.out hF5 (by omega) hsz4
        clear q0 q1 q2 q3 q4 q5 q6 q7
        go_wp2_with fail
        go_roundg 1
        case measure => omega
        case rel => exact Or.inr ⟨rfl, rfl, wc.heap.size, w4.heap.size, v4, v5, hof5, ho5, hFw5, hFwc.size⟩
    · have hA : (localB 0 0 cr 46 46 nm ++ mimeB).length = 84 := by
        rw [List.length_append, localB_length, hnm]
        rfl
      have hR : (recordB 0 0 cr 46 46 nm 0 0).length = 54 := by rw [recordB_length, hnm]
      generalize localB 0 0 cr 46 46 nm ++ mimeB = FA at *
      generalize recordB 0 0 cr 46 46 nm 0 0 = FR at *
      have hof' := hof
      have hod' := hod
      obtain ⟨so, sc, rfl, hs1, hs2, hs3⟩ := own_slice5 hof.own
      obtain ⟨so2, sc2, rfl, ht1, ht2, ht3⟩ := own_slice5 hod.own
      have f0 : wr.cell? ⟨w.heap.size, 0, none⟩ = some (.slice so FA.length sc) := cellOf hof.at_ rfl
      have f1 : wr.cell? ⟨w.heap.size + 1, 0, none⟩ = some (.slice so2 FR.length sc2) := cellOf hod.at_ rfl
      have C4 := raw_any w.heap.size base _ (.slice so2 FR.length sc2) FA FR wr hof (Bs.ofOwn hod.own) (by omega)
      rw [hA] at f0
      rw [hR] at f1 C4
      have HD : Hid _ := hod.at_
      have HL : Hid (FA.length = 84 ∧ FR.length = 54) := ⟨hA, hR⟩
      have hlt := hof.lt
      clear hof hod hof' hod' hA hR HBS HLY HHD
      go_wp2_with fail
      refine C4.mono ?_
      rintro e w6 ⟨rfl, v6, ho6, hF6⟩
      have hd6 := box_keep HD.out hF6 (by decide) (by omega)
      have f6 : w6.cell? ⟨w.heap.size + 1, 0, none⟩ = some (.slice so2 54 sc2) := by
        have h := hd6
        rw [HL.out.2] at h
        exact cellOf h rfl
      have hFw6 : Fr noB w w6 := hF.out hF6 (Nat.le_refl _) hbase
      have C5 := oend_any w.heap.size base 1 54 84 v6 _ w6 ho6 (by decide) (by decide) (by decide) (by rw [List.length_append, HL.out.1, HL.out.2]; decide)
      clear hd6 ho6 hF6
      go_wp2_with fail
      refine C5.mono ?_
      rintro e w7 ⟨rfl, v7, ho7, hF7⟩
      have hFw7 : Fr noB w w7 := hFw6.out hF7 (Nat.le_refl _) hbase
      rw [← HM.out] at ho7
      have c7 : w7.cell? ⟨w.heap.size, 0, none⟩ = some v7 := cellOf ho7.at_ rfl
      have HO7 : Hid _ := ho7
      clear ho7 hF7
      obtain ⟨so7, sc7, rfl, -⟩ := own_slice5 HO7.out.own
      go_wp2_with fail
      go_ret
      refine ⟨_, rfl, ?_, hFw7⟩
      have hown := HO7.out.own
      obtain ⟨o1, o2⟩ := hown
      refine ⟨o1, ?_⟩
      rcases o2 with o2 | ⟨g', cap', cur', k1, k2, k3, k4⟩
      · exact Or.inl o2
      · exact Or.inr ⟨g', cap', cur', k1, Nat.le_trans hbase k2, k3, k4⟩

set_option maxRecDepth 100000 in
set_option maxHeartbeats 800000 in
theorem write_mime (lb db : Nat) (w : World) (h1 : OneAt w lb db) (h2 : MimeF w db) (hT : Tabs w) :
    Calls Tryz.prog 12 #[.slice (some ⟨lb, 0, none⟩) 1 1] w fun e w' => ∃ v, e = .returned (.tuple #[v, .int .i64 0]) ∧ w'.ownsRow w.heap.size 5 1 v mimeF.length (byteVals mimeF) ∧ Fr noB w w' := by
  have C1 := check_mime lb db w h1 h2 hT
  have HC2 : Hid (∀ w', Fr noB w w' → Calls Tryz.prog 24 #[.slice (some ⟨lb, 0, none⟩) 1 1] w' fun e w'' => ∃ v, e = .returned v ∧ w''.ownsRow w'.heap.size 5 1 v mimeF.length (byteVals mimeF) ∧ Fr noB w' w'') := fun w' hF => fileOf_mime lb db w' (hF.obj h1 id) (h2.fr hF id)
  clear h1 h2 hT
  go_enter Tryz.func12, Tryz.ntmps12
  go_wp2_with (go_at_call 23; refine C1.mono ?_; rintro e w1 ⟨rfl, hF1⟩)
  have C2 := HC2.out w1 hF1
  refine C2.mono ?_
  rintro e w2 ⟨v, rfl, hown, hF2⟩
  have hsz := hF1.size
  obtain ⟨so, sc, rfl, -⟩ := own_slice5 hown
  have HO : Hid _ := hown
  clear hown
  go_wp2_with fail
  go_ret2
  refine ⟨_, rfl, ?_, hF1.trans hF2⟩
  obtain ⟨o1, o2⟩ := HO.out
  refine ⟨o1, ?_⟩
  rcases o2 with o2 | ⟨g', cap', cur', k1, k2, k3, k4⟩
  · exact Or.inl o2
  · exact Or.inr ⟨g', cap', cur', k1, Nat.le_trans hsz k2, k3, k4⟩
#print axioms write_mime
end Go.Proofs.YtlhikoomghbnjaaGreatDoor
