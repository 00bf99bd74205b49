/- The walk of the law HuffOwn. -/
import Derived.Test.YtdggaphhamaelabSame
import Derived.Test.YtdggaphhamaelabLater
namespace Go.Proofs.Ytdggaphhamaelab
open Go.RowKit

set_option maxHeartbeats 800000 in
theorem same_yes (a b : Value) (L : List Int) (w : World) (ha : Ns .i64 w a L) (hb : Ns .i64 w b L) :
    Calls Try.prog 10 #[a, b] w fun e w' => e = .returned (.bool true) ∧ Fr noB w w' := by
  obtain ⟨ao, acap, rfl, a1, a2, a4, a3⟩ := ha
  obtain ⟨bo, bcap, rfl, b1, b2, b4, b3⟩ := hb
  have hat : NsAt .i64 w ao L := a3
  have hbt : NsAt .i64 w bo L := b3
  clear a3 b3
  unfold maxLen at a2
  go_enter Try.func10, Try.ntmps10
  go_wp2_with fail
  go_loopw [13] (fun i wr => ∃ k : Nat, k ≤ L.length ∧ i = .int .i64 (k : Int) ∧ ∃ m, wr = w.drewN m) (fun i _ => L.length - (intOf i).toNat)
  case atStart => exact ⟨0, Nat.zero_le _, rfl, 0, rfl⟩
  case round =>
    obtain ⟨k, hk, rfl, m, rfl⟩ := hrel
    by_cases hlt : k < L.length
    · obtain ⟨b, off, rfl, hb, hcell⟩ := hat.get k hlt
      obtain ⟨c, off2, rfl, hc, hcell2⟩ := hbt.get k hlt
      generalize L[k] = x at *
      go_wp2_with fail
      go_quiet (fail)
      go_wp2
      go_roundw
      case rel => exact ⟨k + 1, by omega, by go_num, _, rfl⟩
      case measure => simp [intOf]; omega
    · go_wp2_with fail
      go_ret
      exact ⟨rfl, (Fr.refl _ _).drewN _⟩

/-- The numbers of a list as values. -/
def iVals (L : List Int) : List Value := L.map (Value.int .i64)
theorem iVals_one (L : List Int) : ∀ u ∈ iVals L, u.oneCell' = true := by
  intro v hv
  simp [iVals] at hv
  obtain ⟨x, _, rfl⟩ := hv
  rfl
theorem iv_cells {w : World} {ao : Option Addr} {L : List Int} (h : NsAt .i64 w ao L) : ∀ ad, ao = some ad → ∀ j u, (iVals L)[j]? = some u → w.cell? (ad.add j) = some u := by
  intro ad he j u hj
  have hjl : j < L.length := by
    rcases Nat.lt_or_ge j L.length with h' | h'
    · exact h'
    · rw [List.getElem?_eq_none (by simpa [iVals] using h')] at hj; cases hj
  obtain ⟨b, off, e, _, hc⟩ := h.get j hjl
  rw [he] at e
  cases e
  rw [add_none, hc]
  simp [iVals, hjl] at hj
  rw [hj]
/-- A row that is owned reads as a slice. -/
theorem ns_own {w : World} {g n cap base : Nat} {L : List Int} (h : w.ownsRow base 3 1 (.slice (some ⟨g, 0, none⟩) n cap) n (iVals L)) : Ns .i64 w (.slice (some ⟨g, 0, none⟩) n cap) L ∧ ∃ cur, w.heap[g]? = some (.cells cur 3 (0, 0)) ∧ n ≤ cur.size ∧ base ≤ g ∧ L.length = n := by
  obtain ⟨h1, h2⟩ := h
  rcases h2 with ⟨h2, _⟩ | ⟨g', cap', cur, hv, hg, hh, h3, h4, h5, h6⟩
  · cases h2
  · simp at hv
    obtain ⟨rfl, rfl⟩ := hv
    have hl : L.length = n := by simpa [iVals] using h1
    refine ⟨⟨_, cap, by rw [hl], by omega, h4, by simp, Or.inr ⟨g, 0, rfl, lt_of_block hh, fun i hi => ?_⟩⟩, cur, hh, by omega, hg, hl⟩
    rw [Nat.zero_add]
    refine cellOf hh ?_
    have e1 : (iVals L)[i]? = some (.int .i64 L[i]) := by simp [iVals, hi]
    rw [← h6, List.getElem?_take_of_lt (by omega)] at e1
    simpa using e1

set_option maxRecDepth 100000 in
set_option maxHeartbeats 1600000 in
theorem own_bad (v bv : Value) (L : List Int) (w : World) (hv : Ns .i64 w v L) (hl8 : L.length * 8 ≤ 140737488355328) (hc : chk L ≠ 0) :
    Calls Try.prog 4 #[v, bv] w fun e w' => e = .returned (.bool true) ∧ Below w.heap.size w w' := by
  obtain ⟨i0, hi, hz0, hz1, hz2⟩ := info_parts Try.infoI
  have HV : Hid (Ns .i64 w v L) := hv
  have HK := fun w1 (hF : Fr noB w w1) => refcheck_any v L w1 (hv.keep hF)
  have HN := fun (mv : Value) w1 (h : Ns .i64 w1 mv L) => newDec_bad mv L w1 h hc
  have HC := fun (mv : Value) w1 (h : Ns .i64 w1 mv L) => codes_bad mv L w1 h hc
  generalize chk L = q at *
  have hq1 : (q == 0) = false := by simpa using hc
  have hq2 : (q != 0) = true := by simpa using hc
  clear hc
  obtain ⟨ao, acap, rfl, a1, a2, a4, a3⟩ := hv
  have hat : NsAt .i64 w ao L := a3
  clear a3
  go_enter Try.func4, Try.ntmps4
  go_wp2_with fail
  refine (begun_any _).mono ?_
  rintro e w1 ⟨rfl, hF1⟩
  go_wp2_with (at_make; refine wpList_make_own _ rfl _ _ 22 rfl w.heap.size 3 i0 (.int .i64 0) 1 Try.underlying22 hi hz0 hz1 .i64 .i64 _ (L.length + 3) rfl rfl (by omega) (by rw [hz2]; omega) (by unfold maxLen; omega) hF1.size ?_)
  intro w2 hown2 hgrow2
  have hF2 : Fr noB w w2 := hF1.grown hgrow2 (by simp)
  have hcl : ∀ ad, ao = some ad → ∀ j u, (iVals L)[j]? = some u → w2.cell? (ad.add j) = some u := iv_cells (hat.keep hF2)
  go_wp2_with (at_builtin; refine wpList_append_fits_any _ rfl (.tmp 27) (.tmp 28) 22 rfl w.heap.size 3 i0 1 Try.underlying22 hi hz1 w1.heap.size 0 (L.length + 3) [] rfl hown2 ao L.length acap (iVals L) rfl (by simp [iVals]) (fun h => ⟨by have := a4 h; omega, a4 h⟩) hcl (iVals_one L) (by omega) ?_)
  intro w3 hown3 hgrow3
  have hg1 : w.heap.size ≤ w1.heap.size := hF1.size
  have hF3 : Fr noB w w3 := hF2.grown hgrow3 (fun k hk => Or.inr (by simp at hk; omega))
  obtain ⟨n3, cur3, hrow3, hsz3, hb3, _⟩ := ns_own hown3
  obtain ⟨mg, hmg⟩ : ∃ mg, mg = w1.heap.size := ⟨_, rfl⟩
  rw [← hmg] at n3 hrow3 hb3 ⊢
  clear hown2 hown3 hgrow2 hgrow3 hcl hmg hg1 hF2 hF1
  go_wp2_with fail
  refine (HN _ w3 n3).mono ?_
  rintro e w4 ⟨rfl, hF4⟩
  go_wp2_with fail
  refine (HC _ w4 (n3.keep hF4)).mono ?_
  rintro e w5 ⟨rfl, hF5⟩
  go_wp2_with fail
  refine (HK w5 ((hF3.trans hF4).trans hF5)).mono ?_
  rintro e w6 ⟨rfl, rfl⟩
  go_wp2_with fail
  refine (same_yes _ _ L _ ((n3.keep hF4).keep hF5) (HV.out.keep ((hF3.trans hF4).trans hF5))).mono ?_
  rintro e w7 ⟨rfl, hF7⟩
  go_wp2_with fail
  go_ret
  exact ⟨rfl, (((hF3.trans hF4).trans hF5).trans hF7).below (Nat.le_refl _) (fun k hk => hk.elim)⟩

set_option maxRecDepth 100000 in
set_option maxHeartbeats 3200000 in
theorem own_good (v bv : Value) (M B : List Nat) (w : World) (hv : Ns .i64 w v (up M)) (hbv : Bs w bv B) (hM : Code M) (hB : ∀ x ∈ B, x < 256) (hl : B.length ≤ 140737488355328) :
    Calls Try.prog 4 #[v, bv] w fun e w' => e = .returned (.bool true) ∧ Below w.heap.size w w' := by
  obtain ⟨i0, hi, hz0, hz1, hz2⟩ := info_parts Try.infoI
  have HV : Hid (Ns .i64 w v (up M)) := hv
  have HBV : Hid (Bs w bv B) := hbv
  have HK := fun w1 (hF : Fr noB w w1) => refcheck_any v (up M) w1 (hv.keep hF)
  rw [hM.ok] at HK
  have HN := fun (mv : Value) w1 (h : Ns .i64 w1 mv (up M)) => newDec_good mv M w1 h hM
  have HC := fun (mv : Value) w1 (h : Ns .i64 w1 mv (up M)) => codes_good mv M w1 h hM
  have HRC := fun w1 (hF : Fr noB w w1) => refcodes_good v M w1 (hv.keep hF) hM
  have HCV := fun w1 (hF : Fr noB w w1) => codes_good v M w1 (hv.keep hF) hM
  have HR := fun w1 (hF : Fr noB w w1) => newReader_any bv B w1 (hbv.keep hF) hl
  have hms := hM.short
  obtain ⟨L, hL⟩ : ∃ L, L = up M := ⟨_, rfl⟩
  have hll : L.length = M.length := by rw [hL]; simp
  rw [← hL] at hv HV HN HC
  obtain ⟨ao, acap, rfl, a1, a2, a4, a3⟩ := hv
  have hat : NsAt .i64 w ao L := a3
  have HLL : Hid (L.length = M.length) := hll
  obtain ⟨bo, bcap, rfl, b1, b2, b4, b3⟩ := hbv
  clear a3 b3
  have hlen : L.length ≤ 512 := by omega
  have HL : Hid (L = up M) := hL
  clear hL hll
  go_enter Try.func4, Try.ntmps4
  go_wp2_with fail
  refine (begun_any _).mono ?_
  rintro e w1 ⟨rfl, hF1⟩
  go_wp2_with (at_make; refine wpList_make_own _ rfl _ _ 22 rfl w.heap.size 3 i0 (.int .i64 0) 1 Try.underlying22 hi hz0 hz1 .i64 .i64 _ (L.length + 3) rfl rfl (by omega) (by rw [hz2]; omega) (by unfold maxLen; omega) hF1.size ?_)
  intro w2 hown2 hgrow2
  have hF2 : Fr noB w w2 := hF1.grown hgrow2 (by simp)
  have hcl : ∀ ad, ao = some ad → ∀ j u, (iVals L)[j]? = some u → w2.cell? (ad.add j) = some u := iv_cells (hat.keep hF2)
  go_wp2_with (at_builtin; refine wpList_append_fits_any _ rfl (.tmp 27) (.tmp 28) 22 rfl w.heap.size 3 i0 1 Try.underlying22 hi hz1 w1.heap.size 0 (L.length + 3) [] rfl hown2 ao L.length acap (iVals L) rfl (by simp [iVals]) (fun h => ⟨by have := a4 h; omega, a4 h⟩) hcl (iVals_one L) (by omega) ?_)
  intro w3 hown3 hgrow3
  have hg1 : w.heap.size ≤ w1.heap.size := hF1.size
  have hF3 : Fr noB w w3 := hF2.grown hgrow3 (fun k hk => Or.inr (by simp at hk; omega))
  obtain ⟨n3, cur3, hrow3, hsz3, hb3, _⟩ := ns_own hown3
  obtain ⟨mg, hmg⟩ : ∃ mg, mg = w1.heap.size := ⟨_, rfl⟩
  rw [← hmg] at n3 hrow3 hb3 ⊢
  clear hown2 hown3 hgrow2 hgrow3 hcl hmg hg1 hF2 hF1
  go_wp2_with fail
  refine (HN _ w3 n3).mono ?_
  rintro e w4 ⟨db, sb, rfl, g1, g2, g3, hD4, hF4⟩
  go_wp2_with fail
  refine (HC _ w4 (n3.keep hF4)).mono ?_
  rintro e w5 ⟨cg, rfl, hcg, hcrow, hF5⟩
  have hF35 := (hF3.trans hF4).trans hF5
  go_wp2_with fail
  refine (HK w5 hF35).mono ?_
  rintro e w6 ⟨rfl, rfl⟩
  go_wp2_with fail
  refine (same_yes _ _ L _ ((n3.keep hF4).keep hF5) (HV.out.keep hF35)).mono ?_
  rintro e w7 ⟨rfl, hF7⟩
  have hF37 := hF35.trans hF7
  have hD7 := (hD4.keep hF5 id id).keep hF7 id id
  have hm7 := ((hF4.trans hF5).trans hF7).obj hrow3 id
  have hc7 := hcrow.keep hF7 id
  have x1 := lt_of_block hrow3
  have x2 := lt_of_block (hD4.keep hF5 id id).dec
  have x4 := hF4.size
  have x5 := hF3.size
  have x6 := lt_of_block hD4.dec
  have x7 := lt_of_block hD4.row
  have y1 : db ≠ mg := by omega
  have y2 : sb ≠ mg := by omega
  have y3 : db ≠ cg := by omega
  have y4 : sb ≠ cg := by omega
  have y5 : cg ≠ mg := by omega
  have y6 : w.heap.size ≤ cg := by omega
  clear HN HC HK n3 hrow3 hcrow hD4 hF4 hF5 hF35 hF7 hF3 x1 x2 x4 x5 x6 x7 hcg g1 g2
  go_wp2_with fail
  go_loopw [59] (fun i wr => ∃ k : Nat, k ≤ L.length ∧ i = .int .i64 (k : Int) ∧ (∃ cur, wr.heap[mg]? = some (.cells cur 3 (0, 0)) ∧ L.length ≤ cur.size) ∧ Fr (oneB mg) w7 wr) (fun i _ => L.length - (intOf i).toNat)
  case atStart => exact ⟨0, Nat.zero_le _, rfl, ⟨cur3, hm7, hsz3⟩, Fr.refl _ _⟩
  case round =>
    clear hm7 hsz3
    obtain ⟨k, hk, rfl, ⟨cur, hcu, hcs⟩, hFr⟩ := hrel
    by_cases hlt : k < L.length
    · have ck : wr.cell? ⟨mg, k, none⟩ = some (cur[k]'(by omega)) := cellOf hcu (by simp)
      have fk := freeOf k hcu
      generalize cur[k]'(by omega) = old at *
      go_wp2_with fail
      go_roundw
      case rel =>
        refine ⟨k + 1, by omega, by go_num, ⟨_, setOf k _ hcu, by simpa using hcs⟩, hFr.setOne _ _⟩
      case measure => simp [intOf]; omega
    · have hFa : Fr noB w wr := hF37.then hFr (fun i hi => Or.inr (by rw [show i = mg from hi]; exact hb3))
      have hDa := hD7.keep hFr (fun h => y1 h) (fun h => y2 h)
      have hca : RowN wr cg 29 .u32 (codesN M) := hc7.keep hFr (fun h => y5 h)
      clear hcu hcs hFr hF37 hD7 hc7
      go_wp2_with fail
      go_loopw [68] (fun i wq => ∃ k : Nat, k ≤ M.length ∧ i = .int .i64 (k : Int) ∧ (∃ cur, wq.heap[cg]? = some (.cells cur 29 (0, 0)) ∧ M.length ≤ cur.size) ∧ Fr (oneB cg) wr wq) (fun i _ => M.length - (intOf i).toNat)
      case atStart => exact ⟨0, Nat.zero_le _, rfl, ⟨_, hca, by simp⟩, Fr.refl _ _⟩
      case round =>
        clear hca
        obtain ⟨k, hk, rfl, ⟨cur, hcu, hcs⟩, hFr⟩ := hrel
        by_cases hlt : k < M.length
        · have ck := cellOf (o := k) hcu (Array.getElem?_eq_getElem (by omega))
          have fk := freeOf k hcu
          generalize cur[k]'(by omega) = old at *
          go_wp2_with fail
          go_roundw
          case rel =>
            refine ⟨k + 1, by omega, by go_num, ⟨_, setOf k _ hcu, by simpa using hcs⟩, hFr.setOne _ _⟩
          case measure => simp [intOf]; omega
        · have hFb : Fr noB w wr := hFa.then hFr (fun i hi => Or.inr (by rw [show i = cg from hi]; exact y6))
          have hDb := hDa.keep hFr (fun h => y3 h) (fun h => y4 h)
          clear hcu hcs hFr hFa hDa
          go_wp2_with fail
          refine (HRC _ hFb).mono ?_
          rintro e w4 ⟨rg, rfl, hrg, hrrow, hF4⟩
          go_wp2_with fail
          refine (HR _ (hFb.trans hF4)).mono ?_
          rintro e w5 ⟨rb, gr, rfl, r1, r2, r3, hR5, hrow5, hF5⟩
          have HLR : RL w w5 (.slice ao L.length acap) (.slice (some ⟨rg, 0, none⟩) M.length M.length) (.slice bo B.length bcap) db sb rb gr M B := by
            have e4 := hF4.size
            have x1 := lt_of_block (hDb.keep hF4 id id).dec
            have x2 := lt_of_block (hDb.keep hF4 id id).row
            have x3 := lt_of_block hrrow
            have x4 := hFb.size
            have n1 := (hrrow.keep hF5 id).ns (by rw [codesN_length]; unfold maxLen; omega)
            rw [codesN_length] at n1
            refine ⟨(hFb.trans hF4).trans hF5, by rw [← HL.out]; exact HV.out, n1, HBV.out, (hDb.keep hF4 id id).keep hF5 id id, hrow5, by omega, by omega, by omega, by omega, ?_⟩
            intro b off cap len e
            simp at e
            omega
          clear HRC HR hF4 hF5 hrow5 hrrow hFb hDb
          have hp0 : 0 ≤ 8 * B.length := by omega
          go_wp2_with fail
          go_loopg [15] (8 * B.length - 0) (fun gh av wr => ∃ p : Nat, p ≤ 8 * B.length ∧ gh = 8 * B.length - p ∧ av = .int .i64 (p : Int) ∧ RdAt wr rb gr B.length p ∧ Fr (oneB rb) w5 wr)
          case atStart => exact ⟨0, hp0, rfl, rfl, hR5, Fr.refl _ _⟩
          case round =>
            clear hR5 hp0
            obtain ⟨p, hp, rfl, rfl, hRp, hFp⟩ := hrel
            have HRD := fun wr (hFp : Fr (oneB rb) w5 wr) (hRp : RdAt wr rb gr B.length p) => read_any db sb rb gr p M B wr (HLR.dr hFp hRp) hM hB hl hp
            have HRR := fun w7 (hF8 : Fr (oneB rb) w5 w7) => refread_any _ _ _ M B p w7 (HLR.v hF8) (HLR.c hF8) (HLR.b hF8) hM hB hl hp
            have HOK : Hid ((rdA M B p).2.1 = 0 → p < (rdA M B p).2.2 ∧ (rdA M B p).2.2 ≤ 8 * B.length) := fun h => rdT_ok M B p 16 0 h
            generalize rdA M B p = A at *
            obtain ⟨sy, er, nx⟩ := A
            simp only at HRD HRR HOK
            go_wp2_with fail
            refine (HRD _ hFp hRp).mono ?_
            rintro e w7 ⟨rfl, hok, hF7⟩
            have hF8 := hFp.trans hF7
            go_wp2_with fail
            refine (HRR _ hF8).mono ?_
            rintro e w8 ⟨rfl, m, rfl⟩
            clear HRD HRR hFp hF7 hRp
            by_cases her : er = 0
            · subst her
              have hRn := hok rfl
              obtain ⟨x1, x2⟩ := HOK.out rfl
              clear hok HOK
              go_wp2_with fail
              go_roundg (8 * B.length - nx)
              case measure => omega
              case rel => exact ⟨nx, x2, rfl, rfl, hRn.drewN _, hF8.drewN _⟩
            · have her1 : ((er : Int) == 0) = false := by rw [beq_eq_false_iff_ne]; omega
              have her2 : ((er : Int) != 0) = true := by rw [bne_iff_ne]; omega
              clear hok HOK
              have hFz : Fr noB w (w7.drewN m) := HLR.fr.then (hF8.drewN m) (fun i hi => Or.inr (by rw [show i = rb from hi]; exact HLR.new))
              have hcz := HLR.c (hF8.drewN m)
              go_wp2_with fail
              refine (HCV _ hFz).mono ?_
              rintro e w9 ⟨cz, rfl, hcz1, hzrow, hF9⟩
              have n1 := hzrow.ns (by rw [codesN_length]; unfold maxLen; omega)
              rw [codesN_length] at n1
              go_wp2_with fail
              refine (sameCodes_yes _ _ _ _ n1 (hcz.keep hF9)).mono ?_
              rintro e w10 ⟨rfl, hF10⟩
              go_wp2_with fail
              go_ret
              exact ⟨rfl, ((hFz.trans hF9).trans hF10).below (Nat.le_refl _) (fun k hk => hk.elim)⟩

theorem own_walk (v bv : Value) (L : List Int) (B : List Nat) (w : World) (hv : Ns .i64 w v L) (hbv : Bs w bv B) (hB : ∀ x ∈ B, x < 256) (hl : B.length ≤ 140737488355328) (hl8 : L.length * 8 ≤ 140737488355328) :
    Calls Try.prog 4 #[v, bv] w fun e w' => e = .returned (.bool true) ∧ Below w.heap.size w w' := by
  by_cases hc : chk L = 0
  · obtain ⟨M, rfl, hM⟩ := code_of L hc
    exact own_good v bv M B w hv hbv hM hB hl
  · exact own_bad v bv L w hv hl8 hc
#print axioms own_walk
end Go.Proofs.Ytdggaphhamaelab
