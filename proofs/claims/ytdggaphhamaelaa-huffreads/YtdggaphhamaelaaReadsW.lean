/- The walk of the law HuffReads. -/
import Derived.Test.YtdggaphhamaelaaSame
import Derived.Test.YtdggaphhamaelaaLater
namespace Go.Proofs.Ytdggaphhamaelaa
open Go.RowKit

set_option maxHeartbeats 800000 in
theorem reads_bad (v bv : Value) (s : Int) (L : List Int) (w : World) (hv : Ns .i64 w v L) (hc : chk L ≠ 0) :
    Calls Try.prog 6 #[v, bv, .int .i64 s] w fun e w' => e = .returned (.bool true) ∧ Below w.heap.size w w' := by
  have HD := newDec_bad v L w hv hc
  have HK := fun w1 (hF : Fr noB w w1) => refcheck_any v L w1 (hv.keep hF)
  generalize chk L = q at *
  have hq : (q == 0) = false := by simpa using hc
  have hq2 : (q != 0) = true := by simpa using hc
  clear hc
  obtain ⟨ao, acap, rfl, a1, a2, a4, a3⟩ := hv
  clear a3
  go_enter Try.func6, Try.ntmps6
  go_wp2_with fail
  refine HD.mono ?_
  rintro e w1 ⟨rfl, hF1⟩
  go_wp2_with fail
  refine (HK _ hF1).mono ?_
  rintro e w2 ⟨rfl, rfl⟩
  go_wp2_with fail
  refine (begun_any _).mono ?_
  rintro e w3 ⟨rfl, hF3⟩
  go_wp2_with fail
  go_ret
  exact ⟨rfl, (hF1.trans hF3).below (Nat.le_refl _) (fun k hk => hk.elim)⟩

set_option maxRecDepth 100000 in
set_option maxHeartbeats 6400000 in
theorem reads_good (v bv : Value) (s : Int) (n : Nat) (M B : List Nat) (w : World) (hv : Ns .i64 w v (up M)) (hbv : Bs w bv B) (hM : Code M) (hB : ∀ x ∈ B, x < 256) (hl : B.length ≤ 140737488355328)
    (hs : s = (n : Int) ∧ n ≤ 7 ∨ s < 0 ∧ n = 0 ∨ ¬ s < 0 ∧ 7 < s ∧ n = 0) :
    Calls Try.prog 6 #[v, bv, .int .i64 s] w fun e w' => e = .returned (.bool true) ∧ Below w.heap.size w w' := by
  have HD := newDec_good v M w hv hM
  have HK := fun w1 (hF : Fr noB w w1) => refcheck_any v (up M) w1 (hv.keep hF)
  rw [hM.ok] at HK
  have HC := fun w1 (hF : Fr noB w w1) => refcodes_good v M w1 (hv.keep hF) hM
  have HR := fun w1 (hF : Fr noB w w1) => newReader_any bv B w1 (hbv.keep hF) hl
  have hn7 : n ≤ 7 := by omega
  have HV : Hid (Ns .i64 w v (up M)) := hv
  have HBV : Hid (Bs w bv B) := hbv
  have hms := hM.short
  obtain ⟨ao, acap, rfl, a1, a2, a4, a3⟩ := hv
  obtain ⟨bo, bcap, rfl, b1, b2, b4, b3⟩ := hbv
  clear a3 b3
  rw [length_up] at *
  go_enter Try.func6, Try.ntmps6
  go_wp2_with fail
  refine HD.mono ?_
  rintro e w1 ⟨db, sb, rfl, g1, g2, g3, hD1, hF1⟩
  go_wp2_with fail
  refine (HK _ hF1).mono ?_
  rintro e w2 ⟨rfl, rfl⟩
  go_wp2_with fail
  refine (begun_any _).mono ?_
  rintro e w3 ⟨rfl, hF3⟩
  have hF13 := hF1.trans hF3
  have hD3 := hD1.keep hF3 id id
  clear hF1 hF3 hD1 HD HK
  rcases hs with ⟨hs1, hs2⟩ | ⟨hs1, hs2⟩ | ⟨hs1, hs2, hs3⟩
  · subst hs1
    go_wp2_with fail
    refine (HC _ hF13).mono ?_
    rintro e w4 ⟨cg, rfl, hcg, hcrow, hF4⟩
    go_wp2_with fail
    refine (HR _ (hF13.trans hF4)).mono ?_
    rintro e w5 ⟨rb, gr, rfl, r1, r2, r3, hR5, hrow5, hF5⟩
    have HL : RL w w5 (.slice ao M.length acap) (.slice (some ⟨cg, 0, none⟩) M.length M.length) (.slice bo B.length bcap) db sb rb gr M B := by
      have e4 := hF4.size
      have x1 := lt_of_block (hD3.keep hF4 id id).dec
      have x2 := lt_of_block (hD3.keep hF4 id id).row
      have x3 := lt_of_block hcrow
      have x4 := hF13.size
      have n1 := (hcrow.keep hF5 id).ns (by rw [codesN_length]; unfold maxLen; omega)
      rw [codesN_length] at n1
      refine ⟨(hF13.trans hF4).trans hF5, HV.out, n1, HBV.out, (hD3.keep hF4 id id).keep hF5 id id, hrow5, by omega, by omega, by omega, by omega, ?_⟩
      intro b off cap len e
      simp at e
      omega
    clear HC HR hF4 hF5 hrow5 hcrow hF13 hD3
    by_cases hend : n ≤ 8 * B.length
    · go_wp2_with fail
      refine (bits_good rb gr 0 n B _ hR5 HL.row hB hl (by omega) (by omega)).mono ?_
      rintro e w6 ⟨rfl, hR6, hF6⟩
      rw [Nat.zero_add] at hR6
      have hp0 : n ≤ 8 * B.length := hend
      clear hR5 hend
      go_wp2_with fail
      go_loopg [13] (8 * B.length - n) (fun gh av wr => ∃ p : Nat, p ≤ 8 * B.length ∧ gh = 8 * B.length - p ∧ av = .int .i64 (p : Int) ∧ RdAt wr rb gr B.length p ∧ Fr (oneB rb) w5 wr)
      case atStart => exact ⟨n, hp0, rfl, rfl, hR6, hF6⟩
      case round =>
        clear hR6 hF6 hp0
        obtain ⟨p, hp, rfl, rfl, hRp, hFp⟩ := hrel
        have HRD := read_any db sb rb gr p M B wr (HL.dr hFp hRp) hM hB hl hp
        have HRR := fun w7 (hF8 : Fr (oneB rb) w5 w7) => refread_any _ _ _ M B p w7 (HL.v hF8) (HL.c hF8) (HL.b hF8) hM hB hl hp
        have HOK : Hid ((rdA M B p).2.1 = 0 → p < (rdA M B p).2.2 ∧ (rdA M B p).2.2 ≤ 8 * B.length) := fun h => rdT_ok M B p 16 0 h
        generalize rdA M B p = A at *
        obtain ⟨sy, er, nx⟩ := A
        simp only at HRD HRR HOK
        go_wp2_with fail
        refine HRD.mono ?_
        rintro e w7 ⟨rfl, hok, hF7⟩
        have hF8 := hFp.trans hF7
        go_wp2_with fail
        refine (HRR _ hF8).mono ?_
        rintro e w8 ⟨rfl, m, rfl⟩
        clear HRD HRR hFp hF7 hRp
        by_cases her : er = 0
        · subst her
          have hRn := hok rfl
          obtain ⟨x1, x2⟩ := HOK.out rfl
          have hcast : ((8 * B.length - nx : Nat) : Int) = 8 * (B.length : Int) - (nx : Int) := by omega
          have HLF := left_any rb gr B.length nx (w7.drewN m) (hRn.drewN m) x2 hl
          rw [hcast] at HLF
          clear hok HOK hcast
          go_wp2_with fail
          refine HLF.mono ?_
          rintro e w9 ⟨rfl, m2, rfl⟩
          go_wp2_with fail
          go_roundg (8 * B.length - nx)
          case measure => omega
          case rel => exact ⟨nx, x2, rfl, rfl, hRn.drewN _, hF8.drewN _⟩
        · have her1 : ((er : Int) == 0) = false := by rw [beq_eq_false_iff_ne]; omega
          have her2 : ((er : Int) != 0) = true := by rw [bne_iff_ne]; omega
          clear hok HOK
          go_wp2_with fail
          go_ret
          exact ⟨rfl, ((HL.fr.then (hF8.drewN m) (fun i hi => Or.inr (by rw [show i = rb from hi]; exact HL.new))) : Fr noB w _).below (Nat.le_refl _) (fun k hk => hk.elim)⟩
    · go_wp2_with fail
      refine (bits_ends rb gr B.length 0 n _ hR5 (by omega) hl (by omega) (by omega)).mono ?_
      rintro e w6 ⟨rfl, m6, rfl⟩
      have hR6 := hR5.drewN m6
      have hF6 := (Fr.refl (oneB rb) w5).drewN m6
      have hp0 : 0 ≤ 8 * B.length := by omega
      clear hR5 hend
      go_wp2_with fail
      go_loopg [13] (8 * B.length - 0) (fun gh av wr => ∃ p : Nat, p ≤ 8 * B.length ∧ gh = 8 * B.length - p ∧ av = .int .i64 (p : Int) ∧ RdAt wr rb gr B.length p ∧ Fr (oneB rb) w5 wr)
      case atStart => exact ⟨0, hp0, rfl, rfl, hR6, hF6⟩
      case round =>
        clear hR6 hF6 hp0
        obtain ⟨p, hp, rfl, rfl, hRp, hFp⟩ := hrel
        have HRD := read_any db sb rb gr p M B wr (HL.dr hFp hRp) hM hB hl hp
        have HRR := fun w7 (hF8 : Fr (oneB rb) w5 w7) => refread_any _ _ _ M B p w7 (HL.v hF8) (HL.c hF8) (HL.b hF8) hM hB hl hp
        have HOK : Hid ((rdA M B p).2.1 = 0 → p < (rdA M B p).2.2 ∧ (rdA M B p).2.2 ≤ 8 * B.length) := fun h => rdT_ok M B p 16 0 h
        generalize rdA M B p = A at *
        obtain ⟨sy, er, nx⟩ := A
        simp only at HRD HRR HOK
        go_wp2_with fail
        refine HRD.mono ?_
        rintro e w7 ⟨rfl, hok, hF7⟩
        have hF8 := hFp.trans hF7
        go_wp2_with fail
        refine (HRR _ hF8).mono ?_
        rintro e w8 ⟨rfl, m, rfl⟩
        clear HRD HRR hFp hF7 hRp
        by_cases her : er = 0
        · subst her
          have hRn := hok rfl
          obtain ⟨x1, x2⟩ := HOK.out rfl
          have hcast : ((8 * B.length - nx : Nat) : Int) = 8 * (B.length : Int) - (nx : Int) := by omega
          have HLF := left_any rb gr B.length nx (w7.drewN m) (hRn.drewN m) x2 hl
          rw [hcast] at HLF
          clear hok HOK hcast
          go_wp2_with fail
          refine HLF.mono ?_
          rintro e w9 ⟨rfl, m2, rfl⟩
          go_wp2_with fail
          go_roundg (8 * B.length - nx)
          case measure => omega
          case rel => exact ⟨nx, x2, rfl, rfl, hRn.drewN _, hF8.drewN _⟩
        · have her1 : ((er : Int) == 0) = false := by rw [beq_eq_false_iff_ne]; omega
          have her2 : ((er : Int) != 0) = true := by rw [bne_iff_ne]; omega
          clear hok HOK
          go_wp2_with fail
          go_ret
          exact ⟨rfl, ((HL.fr.then (hF8.drewN m) (fun i hi => Or.inr (by rw [show i = rb from hi]; exact HL.new))) : Fr noB w _).below (Nat.le_refl _) (fun k hk => hk.elim)⟩
  · subst hs2
    go_wp2_with fail
    refine (HC _ hF13).mono ?_
    rintro e w4 ⟨cg, rfl, hcg, hcrow, hF4⟩
    go_wp2_with fail
    refine (HR _ (hF13.trans hF4)).mono ?_
    rintro e w5 ⟨rb, gr, rfl, r1, r2, r3, hR5, hrow5, hF5⟩
    have HL : RL w w5 (.slice ao M.length acap) (.slice (some ⟨cg, 0, none⟩) M.length M.length) (.slice bo B.length bcap) db sb rb gr M B := by
      have e4 := hF4.size
      have x1 := lt_of_block (hD3.keep hF4 id id).dec
      have x2 := lt_of_block (hD3.keep hF4 id id).row
      have x3 := lt_of_block hcrow
      have x4 := hF13.size
      have n1 := (hcrow.keep hF5 id).ns (by rw [codesN_length]; unfold maxLen; omega)
      rw [codesN_length] at n1
      refine ⟨(hF13.trans hF4).trans hF5, HV.out, n1, HBV.out, (hD3.keep hF4 id id).keep hF5 id id, hrow5, by omega, by omega, by omega, by omega, ?_⟩
      intro b off cap len e
      simp at e
      omega
    clear HC HR hF4 hF5 hrow5 hcrow hF13 hD3
    go_wp2_with fail
    refine (bits_good rb gr 0 0 B _ hR5 HL.row hB hl (by omega) (by omega)).mono ?_
    rintro e w6 ⟨rfl, hR6, hF6⟩
    have hp0 : 0 ≤ 8 * B.length := by omega
    clear hR5
    go_wp2_with fail
    go_loopg [13] (8 * B.length - 0) (fun gh av wr => ∃ p : Nat, p ≤ 8 * B.length ∧ gh = 8 * B.length - p ∧ av = .int .i64 (p : Int) ∧ RdAt wr rb gr B.length p ∧ Fr (oneB rb) w5 wr)
    case atStart => exact ⟨0, hp0, rfl, rfl, hR6, hF6⟩
    case round =>
      clear hR6 hF6 hp0
      obtain ⟨p, hp, rfl, rfl, hRp, hFp⟩ := hrel
      have HRD := read_any db sb rb gr p M B wr (HL.dr hFp hRp) hM hB hl hp
      have HRR := fun w7 (hF8 : Fr (oneB rb) w5 w7) => refread_any _ _ _ M B p w7 (HL.v hF8) (HL.c hF8) (HL.b hF8) hM hB hl hp
      have HOK : Hid ((rdA M B p).2.1 = 0 → p < (rdA M B p).2.2 ∧ (rdA M B p).2.2 ≤ 8 * B.length) := fun h => rdT_ok M B p 16 0 h
      generalize rdA M B p = A at *
      obtain ⟨sy, er, nx⟩ := A
      simp only at HRD HRR HOK
      go_wp2_with fail
      refine HRD.mono ?_
      rintro e w7 ⟨rfl, hok, hF7⟩
      have hF8 := hFp.trans hF7
      go_wp2_with fail
      refine (HRR _ hF8).mono ?_
      rintro e w8 ⟨rfl, m, rfl⟩
      clear HRD HRR hFp hF7 hRp
      by_cases her : er = 0
      · subst her
        have hRn := hok rfl
        obtain ⟨x1, x2⟩ := HOK.out rfl
        have hcast : ((8 * B.length - nx : Nat) : Int) = 8 * (B.length : Int) - (nx : Int) := by omega
        have HLF := left_any rb gr B.length nx (w7.drewN m) (hRn.drewN m) x2 hl
        rw [hcast] at HLF
        clear hok HOK hcast
        go_wp2_with fail
        refine HLF.mono ?_
        rintro e w9 ⟨rfl, m2, rfl⟩
        go_wp2_with fail
        go_roundg (8 * B.length - nx)
        case measure => omega
        case rel => exact ⟨nx, x2, rfl, rfl, hRn.drewN _, hF8.drewN _⟩
      · have her1 : ((er : Int) == 0) = false := by rw [beq_eq_false_iff_ne]; omega
        have her2 : ((er : Int) != 0) = true := by rw [bne_iff_ne]; omega
        clear hok HOK
        go_wp2_with fail
        go_ret
        exact ⟨rfl, ((HL.fr.then (hF8.drewN m) (fun i hi => Or.inr (by rw [show i = rb from hi]; exact HL.new))) : Fr noB w _).below (Nat.le_refl _) (fun k hk => hk.elim)⟩
  · subst hs3
    go_wp2_with fail
    refine (HC _ hF13).mono ?_
    rintro e w4 ⟨cg, rfl, hcg, hcrow, hF4⟩
    go_wp2_with fail
    refine (HR _ (hF13.trans hF4)).mono ?_
    rintro e w5 ⟨rb, gr, rfl, r1, r2, r3, hR5, hrow5, hF5⟩
    have HL : RL w w5 (.slice ao M.length acap) (.slice (some ⟨cg, 0, none⟩) M.length M.length) (.slice bo B.length bcap) db sb rb gr M B := by
      have e4 := hF4.size
      have x1 := lt_of_block (hD3.keep hF4 id id).dec
      have x2 := lt_of_block (hD3.keep hF4 id id).row
      have x3 := lt_of_block hcrow
      have x4 := hF13.size
      have n1 := (hcrow.keep hF5 id).ns (by rw [codesN_length]; unfold maxLen; omega)
      rw [codesN_length] at n1
      refine ⟨(hF13.trans hF4).trans hF5, HV.out, n1, HBV.out, (hD3.keep hF4 id id).keep hF5 id id, hrow5, by omega, by omega, by omega, by omega, ?_⟩
      intro b off cap len e
      simp at e
      omega
    clear HC HR hF4 hF5 hrow5 hcrow hF13 hD3
    go_wp2_with fail
    refine (bits_good rb gr 0 0 B _ hR5 HL.row hB hl (by omega) (by omega)).mono ?_
    rintro e w6 ⟨rfl, hR6, hF6⟩
    have hp0 : 0 ≤ 8 * B.length := by omega
    clear hR5
    go_wp2_with fail
    go_loopg [13] (8 * B.length - 0) (fun gh av wr => ∃ p : Nat, p ≤ 8 * B.length ∧ gh = 8 * B.length - p ∧ av = .int .i64 (p : Int) ∧ RdAt wr rb gr B.length p ∧ Fr (oneB rb) w5 wr)
    case atStart => exact ⟨0, hp0, rfl, rfl, hR6, hF6⟩
    case round =>
      clear hR6 hF6 hp0
      obtain ⟨p, hp, rfl, rfl, hRp, hFp⟩ := hrel
      have HRD := read_any db sb rb gr p M B wr (HL.dr hFp hRp) hM hB hl hp
      have HRR := fun w7 (hF8 : Fr (oneB rb) w5 w7) => refread_any _ _ _ M B p w7 (HL.v hF8) (HL.c hF8) (HL.b hF8) hM hB hl hp
      have HOK : Hid ((rdA M B p).2.1 = 0 → p < (rdA M B p).2.2 ∧ (rdA M B p).2.2 ≤ 8 * B.length) := fun h => rdT_ok M B p 16 0 h
      generalize rdA M B p = A at *
      obtain ⟨sy, er, nx⟩ := A
      simp only at HRD HRR HOK
      go_wp2_with fail
      refine HRD.mono ?_
      rintro e w7 ⟨rfl, hok, hF7⟩
      have hF8 := hFp.trans hF7
      go_wp2_with fail
      refine (HRR _ hF8).mono ?_
      rintro e w8 ⟨rfl, m, rfl⟩
      clear HRD HRR hFp hF7 hRp
      by_cases her : er = 0
      · subst her
        have hRn := hok rfl
        obtain ⟨x1, x2⟩ := HOK.out rfl
        have hcast : ((8 * B.length - nx : Nat) : Int) = 8 * (B.length : Int) - (nx : Int) := by omega
        have HLF := left_any rb gr B.length nx (w7.drewN m) (hRn.drewN m) x2 hl
        rw [hcast] at HLF
        clear hok HOK hcast
        go_wp2_with fail
        refine HLF.mono ?_
        rintro e w9 ⟨rfl, m2, rfl⟩
        go_wp2_with fail
        go_roundg (8 * B.length - nx)
        case measure => omega
        case rel => exact ⟨nx, x2, rfl, rfl, hRn.drewN _, hF8.drewN _⟩
      · have her1 : ((er : Int) == 0) = false := by rw [beq_eq_false_iff_ne]; omega
        have her2 : ((er : Int) != 0) = true := by rw [bne_iff_ne]; omega
        clear hok HOK
        go_wp2_with fail
        go_ret
        exact ⟨rfl, ((HL.fr.then (hF8.drewN m) (fun i hi => Or.inr (by rw [show i = rb from hi]; exact HL.new))) : Fr noB w _).below (Nat.le_refl _) (fun k hk => hk.elim)⟩

theorem reads_walk (v bv : Value) (s : Int) (L : List Int) (B : List Nat) (w : World) (hv : Ns .i64 w v L) (hbv : Bs w bv B) (hB : ∀ x ∈ B, x < 256) (hl : B.length ≤ 140737488355328) :
    Calls Try.prog 6 #[v, bv, .int .i64 s] w fun e w' => e = .returned (.bool true) ∧ Below w.heap.size w w' := by
  by_cases hc : chk L = 0
  · obtain ⟨M, rfl, hM⟩ := code_of L hc
    by_cases h0 : s < 0
    · exact reads_good v bv s 0 M B w hv hbv hM hB hl (Or.inr (Or.inl ⟨h0, rfl⟩))
    · by_cases h7 : 7 < s
      · exact reads_good v bv s 0 M B w hv hbv hM hB hl (Or.inr (Or.inr ⟨h0, h7, rfl⟩))
      · exact reads_good v bv s s.toNat M B w hv hbv hM hB hl (Or.inl ⟨by omega, by omega⟩)
  · exact reads_bad v bv s L w hv hc
#print axioms reads_walk
end Go.Proofs.Ytdggaphhamaelaa
