/- isDigit, numbersOf: the program's contracts. -/
import Derived.Test.YtfoclhpnlemmnaaGreatDoorNDat
import Derived.Test.YtfoclhpnlemmnaaGreatDoorTMth
import Derived.Test.YtfoclhpnlemmnaaGreatDoorCMth
import Derived.Lib.OthersKept
import Derived.Laws.AppendOwn
import Derived.Laws.OwnMore
import Derived.Deep.AppendLies
namespace Go.Proofs.YtfoclhpnlemmnaaGreatDoor
open Go.RowKit

/-- A digit's number? -/
def dgI (r : Int) : Bool := decide (48 ≤ r ∧ r ≤ 57)
theorem dgI_nat (c : UInt8) : dgI (c.toNat : Int) = dgB c := by
  unfold dgI dgB
  rw [Bool.eq_iff_iff]
  simp
  omega
set_option maxRecDepth 100000 in
theorem isDigit_any (r : Int) (w : World) : Calls Tryz.prog 56 #[.int .i32 r] w fun e w' => e = .returned (.bool (dgI r)) ∧ w' = w := by
  go_enter Tryz.func56, Tryz.ntmps56
  go_wp2
  all_goals
    go_ret
    refine ⟨ret_bool ?_, rfl⟩
    unfold dgI
    rw [Bool.eq_iff_iff]
    simp
    try omega
/-- Numbers as ints. -/
def nI (L : List Nat) : List Value := L.map fun x : Nat => Value.int .i64 (x : Int)
theorem nI_append (A B : List Nat) : nI (A ++ B) = nI A ++ nI B := by simp [nI]
theorem nI_length (L : List Nat) : (nI L).length = L.length := by simp [nI]
theorem drop_at (s : ByteArray) (k : Nat) (h : k < s.size) : s.data.toList.drop k = s[k] :: s.data.toList.drop (k + 1) := by
  have h' : k < s.data.toList.length := by simpa using h
  rw [List.drop_eq_getElem_cons h']
  rfl
/-- The numbers lie in a slice. -/
def NumsAt (w : World) (v : Value) (L : List Nat) : Prop := ∃ g cap, v = .slice (some ⟨g, 0, none⟩) L.length cap ∧ L.length ≤ cap ∧ cap ≤ maxLen ∧ ∀ i (h : i < L.length), w.cell? ⟨g, i, none⟩ = some (.int .i64 ((L[i] : Nat) : Int))
theorem info_int : ∃ i0, Tryz.prog.info? 3 = some i0 ∧ i0.zero = some (.int .i64 0) ∧ i0.size = 1 ∧ i0.bytes = 8 := by
  have h : (Tryz.prog.info? 3).map (fun i => (i.zero, i.size, i.bytes)) = some (some (.int .i64 0), 1, 8) := by kernel_rfl
  cases hi : Tryz.prog.info? 3 with
  | none => rw [hi] at h; cases h
  | some i0 =>
    rw [hi] at h
    simp at h
    exact ⟨i0, rfl, h.1, h.2.1, h.2.2⟩
theorem own_cells {w : World} {base n g cap : Nat} {xs : List Value} (h : w.ownsRow base 3 1 (.slice (some ⟨g, 0, none⟩) n cap) n xs) : base ≤ g ∧ n ≤ cap ∧ cap ≤ maxLen ∧ ∃ cur, w.heap[g]? = some (.cells cur 3 (0, 0)) := by
  rcases h.2 with ⟨h', _⟩ | ⟨g', cap', cur, h', hb, hg, h1, h2, _⟩
  · simp at h'
  · simp only [Value.slice.injEq, Option.some.injEq, Addr.mk.injEq, and_true, true_and] at h'
    obtain ⟨rfl, rfl⟩ := h'
    exact ⟨hb, h1, h2, cur, hg⟩
theorem numsAt_of {w : World} {base g cap : Nat} {L : List Nat} {n : Nat} (hn : n = L.length) (h : w.ownsRow base 3 1 (.slice (some ⟨g, 0, none⟩) n cap) n (nI L)) : NumsAt w (.slice (some ⟨g, 0, none⟩) n cap) L := by
  subst hn
  obtain ⟨_, h1, h2, _⟩ := own_cells h
  refine ⟨g, cap, rfl, h1, h2, fun i hi => ?_⟩
  rw [h.cellAt i (by omega)]
  simp [nI, hi]
theorem NumsAt.fr {w w' : World} {v : Value} {L : List Nat} (h : NumsAt w v L) (hF : Fr noB w w') : NumsAt w' v L := by
  obtain ⟨g, cap, rfl, h1, h2, h3⟩ := h
  refine ⟨g, cap, rfl, h1, h2, fun i hi => ?_⟩
  have hc := h3 i hi
  have hlt : g < w.heap.size := by
    rcases Nat.lt_or_ge g w.heap.size with h' | h'
    · exact h'
    · simp [World.cell?, Array.getElem?_eq_none h'] at hc
  exact (hF.cell (a := ⟨g, i, none⟩) hlt id).trans hc
theorem pow_le17 {k a : Nat} (h : a < 10 ^ k) (hk : k < 18) : a < 100000000000000000 := by
  have := Nat.pow_le_pow_right (show 1 ≤ 10 by omega) (show k ≤ 17 by omega)
  have e : (10 : Nat) ^ 17 = 100000000000000000 := by decide
  omega
theorem set_last (A : List Nat) (a b : Nat) : (nI (A ++ [a])).set A.length (.int .i64 (b : Int)) = nI (A ++ [b]) := by
  simp [nI]
set_option maxRecDepth 100000 in
set_option maxHeartbeats 2000000 in
theorem numbersOf_any (s form : ByteArray) (w : World) (hA : ∀ i (h : i < form.size), (form[i]'h).toNat < 128) (hn : form.size ≤ 18) :
    Calls Tryz.prog 30 #[.string s, .string form] w fun e w' => (match numsL [] 0 s.data.toList form.data.toList with
      | none => e = .returned (.tuple #[.slice none 0 0, .bool false])
      | some L => ∃ v, e = .returned (.tuple #[v, .bool true]) ∧ NumsAt w' v L) ∧ Fr noB w w' := by
  by_cases hz : s.size = form.size
  · obtain ⟨i0, hi, hz0, hz1, hz2⟩ := info_int
    obtain ⟨ANS, hANS⟩ : ∃ A, numsL [] 0 s.data.toList form.data.toList = A := ⟨_, rfl⟩
    rw [hANS]
    have HANS : Hid (numsL [] 0 s.data.toList form.data.toList = ANS) := hANS
    clear hANS
    obtain ⟨N, hN⟩ : ∃ N, w.heap.size = N := ⟨_, rfl⟩
    have hz' : (s.size : Int) = (form.size : Int) := by omega
    have hit0 : ((w.alloc (.cells #[.int .i64 0] 3 (0, 0))).iter form 0).heap[N + 1]? = some (.stringIter form 0) := by
      have := World.iter_heap (w.alloc (.cells #[.int .i64 0] 3 (0, 0))) form 0
      rwa [show (w.alloc (.cells #[.int .i64 0] 3 (0, 0))).heap.size = N + 1 by simp [hN]] at this
    have hown0 : ((w.alloc (.cells #[.int .i64 0] 3 (0, 0))).iter form 0).ownsRow N 3 1 (.slice (some ⟨N, 0, none⟩) (0 + 1) 1) (0 + 1) (nI ([] ++ [0])) := by
      have := World.ownsRow_lit (base := N) (e := 3) (size := 1) w #[.int .i64 0] 1 (by omega) (by decide) rfl
      rw [hN] at this
      exact this.alloc _
    have hF0 : Fr noB w ((w.alloc (.cells #[.int .i64 0] 3 (0, 0))).iter form 0) := ((Fr.refl noB w).alloc _).alloc _
    have HI0 : Hid _ := hit0
    have HO0 : Hid _ := hown0
    have HF0 : Hid _ := hF0
    clear hit0 hown0 hF0
    go_enter Tryz.func30, Tryz.ntmps30
    go_wp2_with fail
    go_loopw [6] (fun nv wr => ∃ (k a g cap n : Nat) (acc : List Nat), k ≤ form.size ∧ nv = .slice (some ⟨g, 0, none⟩) (n + 1) cap ∧ wr.heap[N + 1]? = some (.stringIter form k) ∧ wr.ownsRow N 3 1 (.slice (some ⟨g, 0, none⟩) (n + 1) cap) (n + 1) (nI (acc ++ [a])) ∧ Fr noB w wr ∧ Hid (acc.length = n) ∧ n ≤ k ∧ a < 10 ^ k ∧ Hid (numsL acc a (s.data.toList.drop k) (form.data.toList.drop k) = ANS)) (fun _ wr => form.size - wr.iterPos (N + 1))
    case atStart => exact ⟨0, 0, N, 1, 0, [], Nat.zero_le _, rfl, HI0.out, HO0.out, HF0.out, rfl, Nat.le_refl _, by decide, HANS⟩
    case round =>
      clear HI0 HO0 HF0 HANS
      obtain ⟨k, a, g, cap, n, acc, hk, rfl, hit, hown, hF, HL, hac, ha, HC⟩ := hrel
      by_cases hlt : k < form.size
      · have hlt' : k < s.size := by omega
        have hnx : ∀ ty, (Instr.next (.pointer (some ⟨N + 1, 0, none⟩)) true ty).run Tryz.prog wr = _ := fun ty => Lib.run_next_ascii_at wr (N + 1) form k ty hit hlt (hA k hlt)
        have hit2 := Lib.iterAt_heap wr (N + 1) form k (k + 1) hit
        obtain ⟨hgN, hcap1, hcap2, cur, hrow⟩ := own_cells hown
        have hne : g ≠ N + 1 := by rintro rfl; rw [hit] at hrow; cases hrow
        have hgit : wr.grownBy (wr.iterAt (N + 1) form (k + 1)) (some (N + 1)) := ⟨rfl, rfl, rfl, by rw [Lib.iterAt_size]; exact Nat.le_refl _, fun i _ hn' => Lib.iterAt_other wr (N + 1) i form _ (fun e => hn' (by rw [e]))⟩
        have hown2 := hown.kept hgit (Or.inr (by simpa [Value.ownBlock] using hne))
        have hF2 : Fr noB w (wr.iterAt (N + 1) form (k + 1)) := hF.grown hgit (fun i hi => Or.inr (by injection hi with hi; omega))
        have hm2 : form.size - (wr.iterAt (N + 1) form (k + 1)).iterPos (N + 1) < form.size - wr.iterPos (N + 1) := by
          simp only [World.iterPos, hit2, hit]
          omega
        have HC2 := HC.out
        rw [drop_at s k hlt', drop_at form k hlt, nums_cons] at HC2
        have ha17 := pow_le17 ha (by omega)
        have hb256 : (s[k]'hlt').toNat < 256 := (s[k]'hlt').toNat_lt
        have hgW : g < (wr.iterAt (N + 1) form (k + 1)).heap.size := by rw [Lib.iterAt_size]; exact lt_of_block hrow
        clear hit hown hgit hF HC hrow
        generalize hW2 : wr.iterAt (N + 1) form (k + 1) = W2 at *
        have c1 : W2.cell? ⟨g, n, none⟩ = some (.int .i64 (a : Int)) := by
          rw [hown2.cellAt n (by omega)]
          simp [nI, ← HL.out]
        have f1 := hown2.frozenAt n
        by_cases h48 : (form[k]'hlt) = 48
        · have hf : (form[k]'hlt).toNat = 48 := by rw [h48]; rfl
          rw [h48] at HC2
          cases hd : dgB (s[k]'hlt') with
          | true =>
            have hdr : 48 ≤ (s[k]'hlt').toNat ∧ (s[k]'hlt').toNat ≤ 57 := by simpa [dgB] using hd
            have HD := isDigit_any ((s[k]'hlt').toNat : Int)
            rw [dgI_nat, hd] at HD
            rw [if_pos ⟨rfl, hd⟩] at HC2
            have HC3 : Hid _ := HC2
            rw [hf] at hnx
            clear HC2 h48 hf hd
            obtain ⟨c, hc⟩ : ∃ c, (s[k]'hlt').toNat = c := ⟨_, rfl⟩
            rw [hc] at HD hdr hb256 HC3
            have hst := (hown2.stored n (.int .i64 ((a * 10 + (c - 48) : Nat) : Int))).1
            rw [show (nI (acc ++ [a])).set n (.int .i64 ((a * 10 + (c - 48) : Nat) : Int)) = nI (acc ++ [a * 10 + (c - 48)]) by rw [← HL.out]; exact set_last _ _ _] at hst
            have hF3 : Fr noB w (W2.setCell ⟨g, n, none⟩ (.int .i64 ((a * 10 + (c - 48) : Nat) : Int))) := hF2.setCell _ (Or.inr (by simp only; omega)) _
            have hit3 : (W2.setCell ⟨g, n, none⟩ (.int .i64 ((a * 10 + (c - 48) : Nat) : Int))).heap[N + 1]? = some (.stringIter form (k + 1)) := by
              rw [Below.heap_setCell _ _ _ _ (by simp only; omega)]
              exact hit2
            have hv : ((a * 10 + (c - 48) : Nat) : Int) = (a : Int) * 10 + ((c : Int) - 48) := by omega
            rw [hv] at hst hF3 hit3
            have HST : Hid _ := And.intro hst (And.intro hF3 hit3)
            have HA10 : Hid (a * 10 + (c - 48) < 10 ^ (k + 1)) := by show _ < _; rw [Nat.pow_succ]; omega
            have HM : Hid _ := hm2
            have HI2 : Hid _ := hit2
            clear hv hst hF3 hit3 ha hm2 hit2 hown2 hF2 hW2 hA
            go_wp2_with (go_at_call 56; with_reducible refine (HD _).mono ?_; rintro e w3 ⟨rfl, rfl⟩)
            go_roundw
            case rel => exact ⟨k + 1, a * 10 + (c - 48), g, cap, n, acc, by omega, rfl, HST.out.2.2, HST.out.1, HST.out.2.1, HL, by omega, HA10.out, HC3⟩
            case measure =>
              have e1 := HST.out.2.2
              have e2 := HI2.out
              have e3 := HM.out
              simp only [World.iterPos, e1, e2] at e3 ⊢
              exact e3
          | false =>
            have hc : ¬ (48 : UInt8) = (s[k]'hlt') := by
              intro e
              rw [← e] at hd
              cases hd
            have HD := isDigit_any ((s[k]'hlt').toNat : Int)
            rw [dgI_nat, hd] at HD
            rw [if_neg (by simp [hd]), if_neg hc] at HC2
            subst HC2
            rw [hf] at hnx
            have hcn : ¬ (s[k]'hlt').toNat = 48 := by
              intro e
              exact hc (UInt8.toNat_inj.1 e.symm)
            obtain ⟨c, hc'⟩ : ∃ c, (s[k]'hlt').toNat = c := ⟨_, rfl⟩
            rw [hc'] at HD hb256 hcn
            have hcn' : ¬ (48 : Int) = (c : Int) := by omega
            have HF2 : Hid _ := hF2
            clear h48 hf hd hc hm2 hit2 hown2 hF2 hW2 hA ha c1 f1
            go_wp2_with (go_at_call 56; with_reducible refine (HD _).mono ?_; rintro e w3 ⟨rfl, rfl⟩)
            go_ret2
            exact ⟨rfl, HF2.out⟩
        · have hf : ¬ (form[k]'hlt).toNat = 48 := fun e => h48 (UInt8.toNat_inj.1 (by rw [e]; rfl))
          rw [if_neg (by intro h; exact h48 h.1)] at HC2
          by_cases hfc : (form[k]'hlt) = (s[k]'hlt')
          · rw [if_pos hfc] at HC2
            have HC3 : Hid _ := HC2
            obtain ⟨c, hc⟩ : ∃ c, (s[k]'hlt').toNat = c := ⟨_, rfl⟩
            have hff : (form[k]'hlt).toNat = c := by rw [hfc, hc]
            rw [hff] at hnx hf
            rw [hc] at hb256
            have hf' : ¬ (c : Int) = 48 := by omega
            have HN : Hid (W2.heap.size = W2.heap.size) := rfl
            have hnews : ∀ j u, [Value.int .i64 0][j]? = some u → (W2.alloc (.cells #[.int .i64 0] 3 (0, 0))).cell? ((⟨W2.heap.size, 0, none⟩ : Addr).add j) = some u := World.news_of_block (cs := #[.int .i64 0]) (t := 3) (fr := (0, 0)) (heap_alloc_new W2 _)
            have hN2 : N + 1 < W2.heap.size := lt_of_block hit2
            have HM : Hid _ := hm2
            have HI2 : Hid (W2.heap[N + 1]? = some (.stringIter form (k + 1))) := hit2
            have HF2 : Hid _ := hF2
            have hone : ∀ u ∈ [Value.int .i64 0], u.oneCell' = true := by simp [Value.oneCell']
            clear HC2 h48 hfc hm2 hW2 hA ha c1 f1 hit2 hF2 hff
            obtain ⟨cs, hcs⟩ : ∃ cs, nI (acc ++ [a]) = cs := ⟨_, rfl⟩
            have HCS : Hid (nI (acc ++ [a]) = cs) := hcs
            rw [hcs] at hown2
            clear hcs HN
            go_wp2_with (at_builtin; refine wpList_append_lies _ rfl (.tmp 53) (.tmp 54) 49 rfl N 3 i0 (.int .i64 0) 1 8 Tryz.underlying49 hi hz0 hz1 hz2 rfl (by omega) _ (n + 1) cs rfl (hown2.alloc _) ⟨W2.heap.size, 0, none⟩ 1 1 [.int .i64 0] rfl rfl hnews hone (by omega) (by unfold maxLen; omega) (by omega) (by simp; omega) (W2.heap.size + 1) (by simp) ?_)
            intro g3 cap3 w3 hown3 hg3 hat3 hlt3
            have hF3 : Fr noB w w3 := (HF2.out.alloc _).grown hg3 (fun i hi' => Or.inr (by simp [Value.ownBlock] at hi'; omega))
            have hit3 : w3.heap[N + 1]? = some (.stringIter form (k + 1)) := by
              rw [hg3.block (N + 1) (by simp; omega) (by simp [Value.ownBlock]; omega), Below.heap_alloc _ _ _ hN2]
              exact HI2.out
            have hown4 : w3.ownsRow N 3 1 (.slice (some ⟨g3, 0, none⟩) (n + 1 + 1) cap3) (n + 1 + 1) (nI ((acc ++ [a]) ++ [0])) := by
              rw [nI_append, HCS.out]
              exact hown3
            have HH : Hid _ := And.intro hown4 (And.intro hF3 hit3)
            clear hown3 hg3 hat3 hlt3 hF3 hit3 hown4 hown2 hnews hone
            go_wp2_with fail
            go_roundw
            case rel => exact ⟨k + 1, 0, g3, cap3, n + 1, acc ++ [a], by omega, rfl, HH.out.2.2, HH.out.1, HH.out.2.1, by show _ = _; simp [HL.out], by omega, Nat.pow_pos (by omega), HC3⟩
            case measure =>
              have e1 := HH.out.2.2
              have e2 := HI2.out
              have e3 := HM.out
              simp only [World.iterPos, e1, e2] at e3 ⊢
              exact e3
          · rw [if_neg hfc] at HC2
            subst HC2
            have hfn : ¬ (form[k]'hlt).toNat = (s[k]'hlt').toNat := fun e => hfc (UInt8.toNat_inj.1 e)
            obtain ⟨c, hc⟩ : ∃ c, (s[k]'hlt').toNat = c := ⟨_, rfl⟩
            obtain ⟨f, hff⟩ : ∃ f, (form[k]'hlt).toNat = f := ⟨_, rfl⟩
            rw [hff] at hnx hf hfn
            rw [hc] at hb256 hfn
            have hf' : ¬ (f : Int) = 48 := by omega
            have hfn' : ¬ (f : Int) = (c : Int) := by omega
            have HF2 : Hid _ := hF2
            clear h48 hfc hm2 hW2 hA ha c1 f1 hit2 hF2 hff hown2
            go_wp2_with fail
            go_ret2
            exact ⟨rfl, HF2.out⟩
      · have hke : k = form.size := by omega
        have hnx : ∀ ty, (Instr.next (.pointer (some ⟨N + 1, 0, none⟩)) true ty).run Tryz.prog wr = _ := fun ty => Lib.run_next_end_at wr (N + 1) form k ty hit hlt
        have HC2 := HC.out
        rw [List.drop_of_length_le (show s.data.toList.length ≤ k by simp; omega), List.drop_of_length_le (show form.data.toList.length ≤ k by simp; omega), nums_nil] at HC2
        subst HC2
        have HNA : Hid _ := numsAt_of (n := n + 1) (L := acc ++ [a]) (by simp [HL.out]) hown
        have HF2 : Hid _ := hF
        clear hown hF hit HC hke ha
        go_wp2_with fail
        go_ret2
        exact ⟨⟨_, rfl, HNA.out⟩, HF2.out⟩
  · rw [nums_len _ _ _ _ (show s.data.toList.length ≠ form.data.toList.length by simpa using hz)]
    have hz' : ¬ (s.size : Int) = (form.size : Int) := by omega
    go_enter Tryz.func30, Tryz.ntmps30
    go_wp2_with fail
    go_ret2
    exact ⟨rfl, Fr.refl _ _⟩
#print axioms numbersOf_any
end Go.Proofs.YtfoclhpnlemmnaaGreatDoor
