/- The walk of the law HuffBack. -/
import Derived.Test.YtdggaphhamaelaaBackM
import Derived.Test.YtdggaphhamaelaaSame
namespace Go.Proofs.Ytdggaphhamaelaa
open Go.RowKit

/-- What holds while symbols are put: the writer has the bits of K, kept has K, the decoder and the codes are as they were. -/
structure BI (w wr : World) (wb db sb cg : Nat) (kv : Value) (M K : List Nat) : Prop where
  fr : Fr noB w wr
  wri : WrIs wr wb (kbits M K)
  own : wr.ownsRow (wb + 1) 3 1 kv K.length (nVals .i64 K)
  dec : DecIs wr db sb M
  row : RowN wr cg 45 .u32 (codesN M)

theorem own_shape {w : World} {base n : Nat} {e : TypeId} {v : Value} {xs : List Value} (h : w.ownsRow base e 1 v n xs) : ∃ so cap, v = .slice so n cap ∧ n ≤ cap ∧ cap ≤ maxLen ∧ (so = none → cap = 0) ∧ (∀ k, v.ownBlock = some k → base ≤ k ∧ ∃ cur, w.heap[k]? = some (.cells cur e (0, 0))) := by
  obtain ⟨h1, h2⟩ := h
  rcases h2 with ⟨rfl, rfl⟩ | ⟨g, cap, cur, rfl, hg, hh, a, b, c, d⟩
  · exact ⟨none, 0, rfl, Nat.le_refl _, by unfold maxLen; omega, fun _ => rfl, fun k hk => by simp [Value.ownBlock] at hk⟩
  · exact ⟨_, cap, rfl, a, b, by simp, fun k hk => by simp [Value.ownBlock] at hk; subst hk; exact ⟨hg, cur, hh⟩⟩
theorem own_other {w w' : World} {S : Nat → Prop} {base n : Nat} {e : TypeId} {v : Value} {xs : List Value} (h : w.ownsRow base e 1 v n xs) (hF : Fr S w w') (hs : ∀ k cur, base ≤ k → w.heap[k]? = some (.cells cur e (0, 0)) → ¬ S k) : w'.ownsRow base e 1 v n xs := by
  obtain ⟨h1, h2⟩ := h
  refine ⟨h1, ?_⟩
  rcases h2 with h2 | ⟨g, cap, cur, hv, hg, hh, r⟩
  · exact Or.inl h2
  · exact Or.inr ⟨g, cap, cur, hv, hg, hF.obj hh (hs g cur hg hh), r⟩
/-- What a writer turns is no row of ints behind it. -/
theorem wS_int {w : World} {wb k : Nat} {cur : Array Value} (hk : wb + 1 ≤ k) (h : w.heap[k]? = some (.cells cur 3 (0, 0))) : ¬ wS w wb k := by
  rintro (rfl | ⟨_, cs, fr, hc⟩)
  · omega
  · rw [h] at hc
    simp at hc
theorem wS_low {w : World} {wb k : Nat} (hk : k < wb) : ¬ wS w wb k := by
  rintro (rfl | ⟨h, _⟩) <;> omega
theorem bi_put {w wr w' : World} {wb db sb cg : Nat} {kv : Value} {M K : List Nat} (h : BI w wr wb db sb cg kv M K) (hF : Fr (wS wr wb) wr w') (h0 : w.heap.size ≤ wb) (h1 : db < wb) (h2 : sb < wb) (h3 : cg < wb) :
    Fr noB w w' ∧ w'.ownsRow (wb + 1) 3 1 kv K.length (nVals .i64 K) ∧ DecIs w' db sb M ∧ RowN w' cg 45 .u32 (codesN M) :=
  ⟨wS_new h.fr hF h0, own_other h.own hF (fun _ _ hk hc => wS_int hk hc), h.dec.keep hF (wS_low h1) (wS_low h2), h.row.keep hF (wS_low h3)⟩
theorem WrIs.grown {w w' : World} {wb : Nat} {l : List Bool} {kv : Value} (h : WrIs w wb l) (hg : w.grownBy w' kv.ownBlock) (hk : ∀ k, kv.ownBlock = some k → wb + 1 ≤ k ∧ ∃ cur, w.heap[k]? = some (.cells cur 3 (0, 0))) : WrIs w' wb l := by
  obtain ⟨sv, h1, h2, h3⟩ := h
  refine ⟨sv, ?_, h2, ?_⟩
  · refine (hg.block wb (lt_of_block h1) (fun e => ?_)).trans h1
    have := (hk wb e.symm).1
    omega
  · rcases h3 with h3 | ⟨g, cap, cur, hv, hgb, hh, r⟩
    · exact Or.inl h3
    · refine Or.inr ⟨g, cap, cur, hv, hgb, (hg.block g (lt_of_block hh) (fun e => ?_)).trans hh, r⟩
      obtain ⟨_, cur', hc⟩ := hk g e.symm
      rw [hh] at hc
      simp at hc

set_option maxHeartbeats 800000 in
theorem back_bad (v sv : Value) (L : List Int) (w : World) (hv : Ns .i64 w v L) (hc : chk L ≠ 0) :
    Calls Try.prog 8 #[v, sv] w fun e w' => e = .returned (.bool true) ∧ Below w.heap.size w w' := by
  have HC := codes_bad v L w hv hc
  have HD := fun w1 (hF : Fr noB w w1) => newDec_bad v L w1 (hv.keep hF) hc
  have HK := fun w1 (hF : Fr noB w w1) => refcheck_any v L w1 (hv.keep hF)
  generalize chk L = q at *
  have hq1 : (q == 0) = false := by simpa using hc
  have hq2 : (q != 0) = true := by simpa using hc
  clear hc
  obtain ⟨ao, acap, rfl, a1, a2, a4, a3⟩ := hv
  clear a3
  go_enter Try.func8, Try.ntmps8
  go_wp2_with fail
  refine HC.mono ?_
  rintro e w1 ⟨rfl, hF1⟩
  go_wp2_with fail
  refine (HD _ hF1).mono ?_
  rintro e w2 ⟨rfl, hF2⟩
  go_wp2_with fail
  refine (begun_any _).mono ?_
  rintro e w3 ⟨rfl, hF3⟩
  have hF := (hF1.trans hF2).trans hF3
  go_wp2_with fail
  refine (HK _ hF).mono ?_
  rintro e w4 ⟨rfl, rfl⟩
  go_wp2_with fail
  go_ret
  exact ⟨rfl, hF.below (Nat.le_refl _) (fun k hk => hk.elim)⟩

set_option maxRecDepth 100000 in
set_option maxHeartbeats 3200000 in
theorem back_good (v sv : Value) (M : List Nat) (Y : List Int) (w : World) (hv : Ns .i64 w v (up M)) (hsv : Ns .i64 w sv Y) (hM : Code M) (hY : Y.length * 8 ≤ 140737488355328) :
    Calls Try.prog 8 #[v, sv] w fun e w' => e = .returned (.bool true) ∧ Below w.heap.size w w' := by
  obtain ⟨i0, hi, hz0, hz1, hz2⟩ := info_parts Try.infoI
  have HV : Hid (Ns .i64 w v (up M)) := hv
  have HC := codes_good v M w hv hM
  have HD := fun w1 (hF : Fr noB w w1) => newDec_good v M w1 (hv.keep hF) hM
  have HK := fun w1 (hF : Fr noB w w1) => refcheck_any v (up M) w1 (hv.keep hF)
  rw [hM.ok] at HK
  have hms := hM.short
  obtain ⟨ao, acap, rfl, a1, a2, a4, a3⟩ := hv
  have hat0 : NsAt .i64 w ao (up M) := a3
  obtain ⟨yo, ycap, rfl, y1, y2, y4, y3⟩ := hsv
  have hyt0 : NsAt .i64 w yo Y := y3
  clear a3 y3
  rw [length_up] at *
  unfold maxLen at a2 y2
  go_enter Try.func8, Try.ntmps8
  go_wp2_with fail
  refine HC.mono ?_
  rintro e w1 ⟨cg, rfl, hcg, hrow1, hF1⟩
  go_wp2_with fail
  refine (HD _ hF1).mono ?_
  rintro e w2 ⟨db, sb, rfl, g1, g2, g3, hD2, hF2⟩
  go_wp2_with fail
  refine (begun_any _).mono ?_
  rintro e w3 ⟨rfl, hF3⟩
  have hF := (hF1.trans hF2).trans hF3
  go_wp2_with fail
  refine (HK _ hF).mono ?_
  rintro e w4 ⟨rfl, rfl⟩
  go_wp2_with fail
  refine (newWriter_any w4).mono ?_
  rintro e w5 ⟨rfl, hW5, hF5, hsz5⟩
  have hBI0 : BI w w5 w4.heap.size db sb cg (.slice none 0 0) M [] := ⟨hF.trans hF5, hW5, ⟨by simp [nVals], Or.inl ⟨rfl, rfl⟩⟩, (hD2.keep hF3 id id).keep hF5 id id, ((hrow1.keep hF2 id).keep hF3 id).keep hF5 id⟩
  have z0 : w.heap.size ≤ w4.heap.size := hF.size
  have z1 : db < w4.heap.size := lt_of_block (hD2.keep hF3 id id).dec
  have z2 : sb < w4.heap.size := lt_of_block (hD2.keep hF3 id id).row
  have z3 : cg < w4.heap.size := lt_of_block ((hrow1.keep hF2 id).keep hF3 id)
  obtain ⟨wb, hwb⟩ : ∃ wb, wb = w4.heap.size := ⟨_, rfl⟩
  rw [← hwb] at hBI0 z0 z1 z2 z3 ⊢
  clear hW5 hF5 hsz5 hrow1 hF1 hF2 hF3 hD2 hF HC HD HK hwb g1 g2 g3 hcg
  go_wp2_with fail
  go_loopg [10, 46] Y.length (fun gh kv iv wr => ∃ (j : Nat) (K : List Nat) (so : Option Addr) (cap : Nat), j ≤ Y.length ∧ gh = Y.length - j ∧ iv = .int .i64 (j : Int) ∧ K.length ≤ j ∧ (∀ s ∈ K, ∃ h : s < M.length, 0 < M[s]) ∧ kv = .slice so K.length cap ∧ BI w wr wb db sb cg (.slice so K.length cap) M K)
  case atStart => exact ⟨0, [], none, 0, Nat.zero_le _, rfl, rfl, Nat.le_refl _, by simp, rfl, hBI0⟩
  case round =>
    clear hBI0
    obtain ⟨j, K, so, cap, hj, rfl, rfl, hKj, hKs, rfl, hB⟩ := hrel
    by_cases hlt : j < Y.length
    · obtain ⟨b, off, rfl, hb, hcell⟩ := (hyt0.keep hB.fr).get j hlt
      have hltI : (j : Int) < (Y.length : Int) := by omega
      have HJL : Hid (j < Y.length) := hlt
      generalize Y[j] = y at *
      by_cases hy : y < 0 ∨ (M.length : Int) ≤ y
      · have hskip : y < 0 ∨ (¬ y < 0 ∧ (M.length : Int) ≤ y) := by omega
        clear hy
        rcases hskip with hy | ⟨hy0, hy⟩
        all_goals
          go_wp2_with fail
          go_roundg (Y.length - (j + 1))
          case measure => omega
          case rel => exact ⟨j + 1, K, so, cap, by omega, rfl, by go_num, by omega, hKs, rfl, hB⟩
      · obtain ⟨s, rfl⟩ := Int.eq_ofNat_of_zero_le (show 0 ≤ y by omega)
        have hs : s < M.length := by omega
        have hsI : (s : Int) < (M.length : Int) := by omega
        have hs0 : ¬ (s : Int) < 0 := by omega
        clear hy
        obtain ⟨b', off', rfl, hb', mcell⟩ := (hat0.keep hB.fr).get s (by simpa using hs)
        rw [up_get _ _ hs] at mcell
        by_cases hx0 : M[s] = 0
        · have hm0 : wr.cell? ⟨b', off' + s, none⟩ = some (.int .i64 0) := by rw [mcell, hx0]; rfl
          clear mcell
          go_wp2_with fail
          go_roundg (Y.length - (j + 1))
          case measure => omega
          case rel => exact ⟨j + 1, K, so, cap, by omega, rfl, by go_num, by omega, hKs, rfl, hB⟩
        · have hx15 := hM.le _ (List.getElem_mem hs)
          have hcl := codeN_lt hM s hs
          have hPG := hput_good wb (.slice (some ⟨b', off', none⟩) M.length acap) (.slice (some ⟨cg, 0, none⟩) M.length M.length) (up M) (up (codesN M)) (kbits M K) s M[s] (codeN M s) wr hB.wri (fun w' hF' => ⟨HV.out.later hB.fr hF' (fun b hb => wS_low (by omega)), by
            have := (hB.row.keep hF' (wS_low z3)).ns (by rw [codesN_length]; unfold maxLen; omega)
            rwa [codesN_length] at this⟩) (by simp) (by simpa using hs) (up_get M s hs) (by rw [up_get _ _ (by simpa using hs), codesN_get M s hs]) (by omega) hx15 hcl (by
              have := kbits_len M K (fun q hq => by obtain ⟨h1, _⟩ := hKs q hq; rw [getD_get M q h1]; exact hM.le _ (List.getElem_mem h1))
              omega)
          have hsn : kbits M K ++ bitsN (revN (codeN M s) M[s]) M[s] = kbits M (K ++ [s]) := by rw [kbits_snoc, getD_get M s hs]
          rw [hsn] at hPG
          have HKS : Hid (∀ q ∈ K ++ [s], ∃ h : q < M.length, 0 < M[q]) := by
            intro q hq
            rcases List.mem_append.1 hq with h | h
            · exact hKs q h
            · simp at h
              subst h
              exact ⟨hs, by omega⟩
          have hmx : ((M[s] : Nat) : Int) ≠ 0 := by omega
          clear hsn hcl hx15
          generalize M[s] = x at *
          have hx0' : ((x : Int) == 0) = false := by rw [beq_eq_false_iff_ne]; omega
          go_wp2_with fail
          refine hPG.mono ?_
          rintro e w6 ⟨rfl, hW6, hF6⟩
          obtain ⟨p1, p2, p3, p4⟩ := bi_put hB hF6 z0 z1 z2 z3
          clear hPG hB hF6
          obtain ⟨so', cap', esl, e1, e2, e3, e4⟩ := own_shape p2
          simp at esl
          obtain ⟨rfl, rfl⟩ := esl
          have hmxl : K.length + 1 ≤ maxLen := by unfold maxLen; omega
          have hsrc : Src (w6.alloc (.cells #[.int .i64 (s : Int)] 3 (0, 0))) (some ⟨w6.heap.size, 0, none⟩) [.int .i64 (s : Int)] :=
            ⟨fun _ => ⟨_, rfl, fun j v hj => by
              match j, hj with
              | 0, hj => simp at hj; subst hj; simp [Addr.add]⟩⟩
          have hone : ∀ u ∈ [Value.int .i64 (s : Int)], u.oneCell' = true := by intro u hu; simp at hu; subst hu; rfl
          have hwlt : wb < w6.heap.size := by
            obtain ⟨_, h, _⟩ := hW6
            exact lt_of_block h
          go_wp2_with (at_builtin; refine wpList_append_src rfl (.tmp 71) (.tmp 73) 22 rfl (wb + 1) 3 i0 (.int .i64 0) 8 Try.underlying22 hi hz0 hz1 hz2 rfl _ K.length (nVals .i64 K) rfl (p2.alloc _) _ 1 1 rfl (by simp) (by omega) [.int .i64 (s : Int)] rfl hsrc hone hmxl (by omega) (by simp; omega) ?_)
          intro v7 w7 hown7 hg7
          obtain ⟨so7, cap7, rfl, f1, f2, f3, f4⟩ := own_shape hown7
          have hblk : ∀ k, (Value.slice so K.length cap).ownBlock = some k → wb + 1 ≤ k ∧ ∃ cur, (w6.alloc (.cells #[.int .i64 (s : Int)] 3 (0, 0))).heap[k]? = some (.cells cur 3 (0, 0)) := by
            intro k hk
            obtain ⟨q1, cur, q2⟩ := e4 k hk
            exact ⟨q1, cur, (Below.heap_alloc _ _ _ (lt_of_block q2)).trans q2⟩
          have hFg : Fr (fun k => (Value.slice so K.length cap).ownBlock = some k) (w6.alloc (.cells #[.int .i64 (s : Int)] 3 (0, 0))) w7 := (Fr.refl _ _).grown hg7 (fun k hk => Or.inl hk)
          have hFa := (Fr.refl noB w6).alloc (.cells #[.int .i64 (s : Int)] 3 (0, 0))
          have hWr7 := (hW6.keep hFa).grown hg7 hblk
          have hB7 : BI w w7 wb db sb cg (.slice so7 (K ++ [s]).length cap7) M (K ++ [s]) := by
            refine ⟨(p1.trans hFa).grown hg7 (fun k hk => Or.inr (by have := (hblk k hk).1; omega)), hWr7, ?_, (p3.keep hFa id id).keep hFg (fun h => by have := (hblk _ h).1; omega) (fun h => by have := (hblk _ h).1; omega), (p4.keep hFa id).keep hFg (fun h => by have := (hblk _ h).1; omega)⟩
            rw [List.length_append]
            have e : nVals .i64 (K ++ [s]) = nVals .i64 K ++ [.int .i64 (s : Int)] := by simp [nVals]
            rw [e]
            exact hown7
          clear hblk hFg hFa hWr7 hown7 hg7 p1 p2 p3 p4 hsrc hone
          go_wp2_with fail
          go_roundg (Y.length - (j + 1))
          case measure => omega
          case rel => exact ⟨j + 1, K ++ [s], so7, cap7, by omega, rfl, by go_num, by simp; omega, HKS.out, by simp, hB7⟩
    · have hlen := kbits_len M K (fun q hq => by obtain ⟨h1, _⟩ := hKs q hq; rw [getD_get M q h1]; exact hM.le _ (List.getElem_mem h1))
      have HO := wout_any wb (kbits M K) wr hB.wri (by omega)
      have hKN : Ns .i64 wr (.slice so K.length cap) (up K) := by
        obtain ⟨q1, q2⟩ := hB.own
        rcases q2 with ⟨q2, q3⟩ | ⟨g, cap', cur, hv, hg, hh, a, b, c, d⟩
        · have : K = [] := List.eq_nil_of_length_eq_zero q3
          subst this
          rw [q2]
          exact ⟨none, 0, rfl, Nat.le_refl _, by unfold maxLen; omega, fun _ => rfl, Or.inl rfl⟩
        · rw [hv]
          refine ⟨_, cap', by rw [length_up], by simpa using a, b, by simp, Or.inr ⟨g, 0, rfl, lt_of_block hh, fun i hi => ?_⟩⟩
          have hi' : i < K.length := by simpa using hi
          rw [Nat.zero_add, up_get K i hi']
          refine cellOf hh ?_
          have e1 := nVals_get .i64 K i hi'
          rw [← d, List.getElem?_take_of_lt (by omega)] at e1
          simpa using e1
      have hpl : (packB (kbits M K)).length ≤ 140737488355328 := by rw [packB_length]; omega
      have hp256 := packB_lt (kbits M K)
      obtain ⟨P, hP⟩ : ∃ P, P = packB (kbits M K) := ⟨_, rfl⟩
      rw [← hP] at HO hpl hp256
      have HBK : Hid (∀ i (hi : i < K.length), rdA M P (kbits M (K.take i)).length = (K[i], 0, (kbits M (K.take (i + 1))).length) ∧ (kbits M (K.take i)).length ≤ 8 * P.length) := by
        intro i hi
        have e1 : K = K.take i ++ K[i] :: K.drop (i + 1) := (List.take_append_drop i K).symm.trans (by rw [List.drop_eq_getElem_cons hi])
        obtain ⟨h1, h2⟩ := hKs _ (List.getElem_mem hi)
        have := back_read hM (K.take i) (K.drop (i + 1)) K[i] h1 h2
        rw [← e1, ← hP, ← List.take_succ_eq_append_getElem hi] at this
        refine ⟨this, ?_⟩
        have e2 : (kbits M (K.take i)).length ≤ (kbits M K).length := by
          conv => rhs; rw [← List.take_append_drop i K, kbits_append]
          simp
        rw [hP, packB_length]
        omega
      have HPE : Hid (P = packB (kbits M K)) := hP
      have hKb : K.length ≤ 17592186044416 := by omega
      have hBd := hB.dec
      have hBf := hB.fr
      clear hP hKs hlen hat0 hyt0 hB hKj
      go_wp2_with fail
      refine HO.mono ?_
      rintro e w6 ⟨ov, rfl, hown6, hF6⟩
      have hbs := bs_of_own rfl hown6
      obtain ⟨oo, ocap, rfl⟩ : ∃ oo cap, ov = .slice oo P.length cap := by
        obtain ⟨oo, cap, e, _⟩ := hbs
        exact ⟨oo, cap, e⟩
      go_wp2_with fail
      refine (newReader_any _ P w6 hbs hpl).mono ?_
      rintro e w7 ⟨rb, gr, rfl, r1, r2, r3, hR7, hrow7, hF7⟩
      have hK7 := (hKN.keep hF6).keep hF7
      have hD7 := (hBd.keep hF6 id id).keep hF7 id id
      have d1 : db ≠ rb := by have := lt_of_block (hBd.keep hF6 id id).dec; omega
      have d2 : sb ≠ rb := by have := lt_of_block (hBd.keep hF6 id id).row; omega
      have hkr : ∀ b off, so = some ⟨b, off, none⟩ → 0 < K.length → b < w6.heap.size := by
        intro b off e h0
        obtain ⟨x1, x2, q1, _, _, _, q2⟩ := hKN.keep hF6
        simp at q1
        obtain ⟨rfl, _⟩ := q1
        obtain ⟨b2, off2, q3, q4, _⟩ := NsAt.get q2 0 (by simpa using h0)
        rw [e] at q3
        cases q3
        exact q4
      have hat7 : NsAt .i64 w7 so (up K) := by
        obtain ⟨x1, x2, q1, _, _, _, q2⟩ := hK7
        simp at q1
        obtain ⟨rfl, _⟩ := q1
        exact q2
      have hFz := (hBf.trans hF6).trans hF7
      have znew : w.heap.size ≤ rb := by have := (hBf.trans hF6).size; omega
      clear hown6 hbs hKN hBd hBf hF6 hF7 hK7 HO
      go_wp2_with fail
      go_loopw [81] (fun i wq => ∃ k : Nat, k ≤ K.length ∧ i = .int .i64 (k : Int) ∧ RdAt wq rb gr P.length (kbits M (K.take k)).length ∧ Fr (oneB rb) w7 wq) (fun i _ => K.length - (intOf i).toNat)
      case atStart => exact ⟨0, Nat.zero_le _, rfl, hR7, Fr.refl _ _⟩
      case round =>
        clear hR7
        obtain ⟨k, hk, rfl, hRk, hFk⟩ := hrel
        by_cases hklt : k < K.length
        · obtain ⟨b, off, rfl, hb, hcell⟩ := hat7.get k (by simpa using hklt)
          rw [up_get _ _ hklt] at hcell
          have hbne : b ≠ rb := by have := hkr b off rfl (by omega); omega
          have kcell := (hFk.cell (a := ⟨b, off + k, none⟩) hb (fun h => hbne h)).trans hcell
          obtain ⟨q1, q2⟩ := HBK.out k hklt
          have HRD := read_any db sb rb gr (kbits M (K.take k)).length M P _ ⟨hD7.keep hFk (fun h => d1 h) (fun h => d2 h), hRk, hFk.obj hrow7 (fun h => r3 h.symm), d1, d2, fun h => r3 h.symm⟩ hM hp256 hpl q2
          rw [q1] at HRD
          have hkI : (k : Int) < (K.length : Int) := by omega
          generalize K[k] = sx at *
          have HKL : Hid (k < K.length) := hklt
          simp only at HRD
          go_wp2_with fail
          refine HRD.mono ?_
          rintro e w8 ⟨rfl, hok, hF8⟩
          have hR8 := hok trivial
          clear hok HRD
          go_wp2_with fail
          go_roundw
          case rel => exact ⟨k + 1, HKL.out, by go_num, hR8, hFk.trans hF8⟩
          case measure => have := HKL.out; simp [intOf]; omega
        · go_wp2_with fail
          go_ret
          exact ⟨rfl, (hFz.then hFk (fun i hi => Or.inr (by rw [show i = rb from hi]; exact znew))).below (Nat.le_refl _) (fun k hk => hk.elim)⟩

theorem back_walk (v sv : Value) (L Y : List Int) (w : World) (hv : Ns .i64 w v L) (hsv : Ns .i64 w sv Y) (hY : Y.length * 8 ≤ 140737488355328) :
    Calls Try.prog 8 #[v, sv] w fun e w' => e = .returned (.bool true) ∧ Below w.heap.size w w' := by
  by_cases hc : chk L = 0
  · obtain ⟨M, rfl, hM⟩ := code_of L hc
    exact back_good v sv M Y w hv hsv hM hY
  · exact back_bad v sv L w hv hc
#print axioms back_walk
end Go.Proofs.Ytdggaphhamaelaa
