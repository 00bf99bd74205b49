/- The contracts of zip.byteSteps, zip.Sum and the document's Sum. -/
import Derived.Test.YtlhikoomghbnjaaGreatDoorZBas
namespace Go.Proofs.YtlhikoomghbnjaaGreatDoor
open Go.RowKit

/-- The table as far as it is filled. -/
def tabTo (k : Nat) : Nat → Nat := fun i => if i < k then cstepN 8 i else 0
theorem tabTo_succ (k : Nat) : updf (tabTo k) k (cstepN 8 k) = tabTo (k + 1) := by
  funext i
  unfold updf tabTo
  by_cases e : i = k
  · subst e; simp
  · by_cases h : i < k
    · simp [e, h, show i < k + 1 by omega]
    · simp [e, h, show ¬ i < k + 1 by omega]
/-- A bit of the table: what the two operations on numbers come to. -/
theorem and1_u32 (r : Nat) (h : r < 4294967296) : bits .and .u32 (r : Int) 1 = ((r % 2 : Nat) : Int) := by
  have := u32_and_nat r 1 h (by decide)
  rw [Nat.and_one_is_mod] at this
  exact this
theorem step_u32 (r : Nat) (h : r < 4294967296) : bits .xor .u32 ((r : Int) / 2) (bits .and .u32 3988292384 ((-(bits .and .u32 (r : Int) 1)) % 4294967296)) = ((cstep r : Nat) : Int) := by
  rw [and1_u32 r h]
  have e1 : (r : Int) / 2 = ((r / 2 : Nat) : Int) := by omega
  have e2 : bits .and .u32 3988292384 ((-((r % 2 : Nat) : Int)) % 4294967296) = (((if r % 2 = 1 then 3988292384 else 0 : Nat)) : Int) := by
    rcases Nat.mod_two_eq_zero_or_one r with h | h
    · rw [h]; decide
    · rw [h]; decide
  rw [e1, e2, u32_xor_nat _ _ (by omega) (by split <;> omega)]
  rfl

set_option maxRecDepth 100000 in
set_option maxHeartbeats 1600000 in
theorem steps_any (w : World) :
    Calls Tryz.prog 15 #[] w fun e w' => e = .returned (.agg (A256 (cstepN 8))) ∧ Fr noB w w' := by
  rw [show A256 (cstepN 8) = A256 (tabTo 256) from A256_congr _ _ (fun i hi => by simp [tabTo, hi])]
  have hzv := Tryz.zero256
  have hF0 := ((Fr.refl noB w).alloc (.cells (A256 (fun _ => 0)) 41 (0, 0))).alloc (.cells (A256 (fun _ => 0)) 41 (0, 0))
  have hr0 : TabAt ((w.alloc (.cells (A256 (fun _ => 0)) 41 (0, 0))).alloc (.cells (A256 (fun _ => 0)) 41 (0, 0))) w.heap.size (fun _ => 0) := (Below.heap_alloc _ _ _ (by simp)).trans (heap_alloc_new _ _)
  have hg0 : TabAt ((w.alloc (.cells (A256 (fun _ => 0)) 41 (0, 0))).alloc (.cells (A256 (fun _ => 0)) 41 (0, 0))) (w.heap.size + 1) (fun _ => 0) := by
    have := heap_alloc_new (w.alloc (.cells (A256 (fun _ => 0)) 41 (0, 0))) (.cells (A256 (fun _ => 0)) 41 (0, 0))
    rw [show (w.alloc (.cells (A256 (fun _ => 0)) 41 (0, 0))).heap.size = w.heap.size + 1 by simp] at this
    exact this
  have HF0 : Hid _ := hF0
  have HR0 : Hid _ := hr0
  have HG0 : Hid _ := hg0
  clear hF0 hr0 hg0
  go_enter Tryz.func15, Tryz.ntmps15
  go_wp2_with fail
  go_loopw [5] (fun i wr => ∃ k : Nat, k ≤ 256 ∧ i = .int .u32 (k : Int) ∧ TabAt wr w.heap.size (fun _ => 0) ∧ TabAt wr (w.heap.size + 1) (tabTo k) ∧ Fr noB w wr) (fun i _ => 256 - (intOf i).toNat)
  case atStart => exact ⟨0, Nat.zero_le _, rfl, HR0.out, HG0.out, HF0.out⟩
  case round =>
    obtain ⟨k, hk, rfl, hr, hg, hF⟩ := hrel
    clear HF0 HR0 HG0 hzv
    by_cases hlt : k < 256
    · have HR : Hid (TabAt wr w.heap.size (fun _ => 0)) := hr
      have HG : Hid (TabAt wr (w.heap.size + 1) (tabTo k)) := hg
      have ck := hg.cell k hlt
      have zk : wr.frozen? ⟨w.heap.size + 1, k, none⟩ = false := freeOf k hg
      clear hr hg
      go_wp2_with fail
      go_loop [3, 9] (fun r j => ∃ m : Nat, m ≤ 8 ∧ j = .int .i64 (m : Int) ∧ r = .int .u32 ((cstepN m k : Nat) : Int)) (fun _ j => 8 - (intOf j).toNat)
      case atStart => exact ⟨0, Nat.zero_le _, rfl, rfl⟩
      case round =>
        obtain ⟨m, hm, rfl, rfl⟩ := hrel
        have hc := cstepN_lt m k (by omega)
        have hs := step_u32 _ hc
        rw [← cstepN_succ] at hs
        generalize hx : cstepN m k = x at *
        by_cases h8 : m < 8
        · go_wp2_with fail
          refine ⟨⟨m + 1, by omega, rfl, rfl⟩, ?_⟩
          simp [intOf]
          omega
        · have e8 : m = 8 := by omega
          subst e8
          have HX : Hid (cstepN 8 k = x) := hx
          clear hx hs
          go_wp2_with fail
          go_round
          case rel =>
            refine ⟨k + 1, by omega, by go_num, HR.out.set_ne (by omega) _ _, ?_, hF.setCell _ (Or.inr (by simp)) _⟩
            have := HG.out.set k x
            rw [← HX.out, tabTo_succ, HX.out] at this
            exact this
          case measure => simp [intOf]; omega
    · have e : k = 256 := by omega
      subst e
      have HF : Hid (Fr noB w wr) := hF
      unfold TabAt at hr hg
      go_wp2_with (first | (refine wpList_load_row rfl 41 (.tmp 1) rfl (w.heap.size + 1) rfl 41 (A256 (tabTo 256)) (0, 0) _ hg Tryz.underlying41 rfl (info256 _) ?_) | (refine wpList_store_row rfl 41 (.tmp 0) (.tmp 24) rfl w.heap.size (A256 (tabTo 256)) rfl rfl 41 _ hr (info256 _) (by simp) (A256_one _) ?_))
      refine bodyPost_ret (v := .agg (A256 (tabTo 256))) (results_cell_row Tryz.results15 _ _ w.heap.size 41 (A256 (tabTo 256)) (0, 0) _ rfl (setRow_heap _ _ _ _ _ _ hr) Tryz.underlying41 rfl (info256 _)) rfl ⟨rfl, HF.out.setRow' _ (Or.inr (Nat.le_refl _)) _⟩

theorem crcF_snoc (B : List Nat) (s c : Nat) : crcF s (B ++ [c]) = cstepN 8 (crcF s B ^^^ c) := by
  induction B generalizing s with
  | nil => rfl
  | cons b B ih => exact ih _
theorem crcF_take (B : List Nat) (s k : Nat) (h : k < B.length) : crcF s (B.take (k + 1)) = cstepN 8 (crcF s (B.take k) ^^^ B[k]) := by
  rw [List.take_add_one, List.getElem?_eq_getElem h]
  exact crcF_snoc _ _ _
theorem not_u32 (x : Nat) (h : x < 4294967296) : bits .xor .u32 4294967295 (x : Int) = ((4294967295 - x : Nat) : Int) := by
  have := u32_xor_nat 4294967295 x (by decide) h
  rw [xor_ones32 x h] at this
  exact this
theorem xor_byte (x c : Nat) (hc : c < 256) : x % 256 ^^^ c < 256 := Nat.xor_lt_two_pow (n := 8) (by omega) (by omega)

set_option maxRecDepth 100000 in
set_option maxHeartbeats 1600000 in
theorem sum_any (v : Value) (B : List Nat) (w : World) (hv : Bs w v B) (hB : ∀ x ∈ B, x < 256) :
    Calls Tryz.prog 6 #[v] w fun e w' => e = .returned (.int .u32 ((crc B : Nat) : Int)) ∧ Fr noB w w' := by
  obtain ⟨ao, cap, rfl, h1, h2, h4, h3⟩ := hv
  have hat : BsAt w ao B := h3
  have HB : Hid (∀ x ∈ B, x < 256) := hB
  unfold maxLen at h2
  have hzv := Tryz.zero256
  have hF0 : ∀ w1, Fr noB w w1 → Fr noB w (w1.alloc (.cells (A256 (cstepN 8)) 41 (0, 0))) := fun w1 h => h.alloc _
  have hg0 : ∀ w1 : World, TabAt (w1.alloc (.cells (A256 (cstepN 8)) 41 (0, 0))) w1.heap.size (cstepN 8) := fun w1 => heap_alloc_new _ _
  have HF0 : Hid (∀ w1, Fr noB w w1 → Fr noB w (w1.alloc (.cells (A256 (cstepN 8)) 41 (0, 0)))) := hF0
  have HG0 : Hid (∀ w1 : World, TabAt (w1.alloc (.cells (A256 (cstepN 8)) 41 (0, 0))) w1.heap.size (cstepN 8)) := hg0
  have HAT : Hid (∀ w1, Fr noB w w1 → BsAt w1 ao B) := fun w1 h => hat.keep h
  clear h3 hat hF0 hg0 hB
  go_enter Tryz.func6, Tryz.ntmps6
  go_wp2_with (first | (go_at_call 15; refine (steps_any _).mono ?_; rintro e w1 ⟨rfl, hF1⟩) | (refine wpList_store_row rfl 41 (.tmp 3) (.tmp 7) rfl w1.heap.size (A256 (cstepN 8)) rfl rfl 41 _ (heap_alloc_new _ _) (info256 _) (by simp) (A256_one _) ?_; rw [World.setRow_alloc_new]))
  have hg := HG0.out w1
  have hF := HF0.out w1 hF1
  have hat := HAT.out _ hF
  obtain ⟨g, hge⟩ : ∃ g, g = w1.heap.size := ⟨_, rfl⟩
  rw [← hge] at hg
  rw [← hge]
  generalize w1.alloc (.cells (A256 (cstepN 8)) 41 (0, 0)) = w2 at *
  have HF : Hid (Fr noB w w2) := hF
  clear HG0 HF0 HAT hF1 hF hge hzv
  go_loopw [4, 10] (fun s i wr => ∃ k : Nat, k ≤ B.length ∧ i = .int .i64 (k : Int) ∧ s = .int .u32 ((crcF 4294967295 (B.take k) : Nat) : Int) ∧ ∃ m, wr = w2.drewN m) (fun _ i _ => B.length - (intOf i).toNat)
  case atStart => exact ⟨0, Nat.zero_le _, rfl, rfl, 0, rfl⟩
  case round =>
    obtain ⟨k, hk, rfl, rfl, m, rfl⟩ := hrel
    have hc : crcF 4294967295 (B.take k) < 4294967296 := crcF_lt _ (fun x hx => HB.out x (List.mem_of_mem_take hx)) _ (by decide)
    by_cases hlt : k < B.length
    · obtain ⟨b, off, rfl, hb, hcell⟩ := hat.get k hlt
      have hs := crcF_take B 4294967295 k hlt
      have hbk : B[k] < 256 := HB.out _ (List.getElem_mem hlt)
      generalize B[k] = c at *
      have HS : Hid _ := hs
      generalize crcF 4294967295 (B.take k) = x at *
      have HX : bits .xor .u8 ((x : Int) % 256) (c : Int) = ((x % 256 ^^^ c : Nat) : Int) := by
        have := u8_xor_nat (x % 256) c (by omega) hbk
        rw [← this]
        congr 1
      have hy := xor_byte x c hbk
      have ht := hg.cell _ hy
      have HX2 : bits .xor .u32 ((x : Int) / 256) ((cstepN 8 (x % 256 ^^^ c) : Nat) : Int) = ((cstepN 8 (x ^^^ c) : Nat) : Int) := by
        have := u32_xor_nat (x / 256) (cstepN 8 (x % 256 ^^^ c)) (by omega) (cstepN_lt 8 _ (by omega))
        rw [cstep8 x c, ← this]
        congr 1
      generalize x % 256 ^^^ c = y at *
      generalize cstepN 8 y = z at *
      clear hat hs
      go_wp2_with fail
      refine ⟨⟨k + 1, by omega, rfl, by rw [HS.out], m, rfl⟩, ?_⟩
      simp [intOf]
      omega
    · have e : k = B.length := by omega
      subst e
      rw [List.take_length] at *
      have HN := not_u32 _ hc
      have HC : Hid (crc B = 4294967295 - crcF 4294967295 B) := rfl
      generalize crcF 4294967295 B = x at *
      go_wp2_with fail
      go_ret
      exact ⟨ret_int (by rw [HC.out]; exact HN), HF.out.drewN _⟩

theorem refstep (x : Nat) : cstep x = if x % 2 = 1 then x / 2 ^^^ 3988292384 else x / 2 := by
  unfold cstep
  split <;> simp

set_option maxRecDepth 100000 in
set_option maxHeartbeats 1600000 in
theorem rsum_any (v : Value) (B : List Nat) (w : World) (hv : Bs w v B) (hB : ∀ x ∈ B, x < 256) :
    Calls Tryz.prog 7 #[v] w fun e w' => e = .returned (.int .u32 ((crc B : Nat) : Int)) ∧ ∃ m, w' = w.drewN m := by
  obtain ⟨ao, cap, rfl, h1, h2, h4, h3⟩ := hv
  have hat : BsAt w ao B := h3
  have HB : Hid (∀ x ∈ B, x < 256) := hB
  unfold maxLen at h2
  clear h3 hB
  go_enter Tryz.func7, Tryz.ntmps7
  go_wp2_with fail
  go_loopw [3, 4] (fun s i wr => ∃ k : Nat, k ≤ B.length ∧ i = .int .i64 (k : Int) ∧ s = .int .u32 ((crcF 4294967295 (B.take k) : Nat) : Int) ∧ ∃ m, wr = w.drewN m) (fun _ i _ => B.length - (intOf i).toNat)
  case atStart => exact ⟨0, Nat.zero_le _, rfl, rfl, 0, rfl⟩
  case round =>
    obtain ⟨k, hk, rfl, rfl, m, rfl⟩ := hrel
    have hc : crcF 4294967295 (B.take k) < 4294967296 := crcF_lt _ (fun x hx => HB.out x (List.mem_of_mem_take hx)) _ (by decide)
    by_cases hlt : k < B.length
    · obtain ⟨b, off, rfl, hb, hcell⟩ := hat.get k hlt
      have hs := crcF_take B 4294967295 k hlt
      have hbk : B[k] < 256 := HB.out _ (List.getElem_mem hlt)
      generalize B[k] = c at *
      have HS : Hid _ := hs
      generalize crcF 4294967295 (B.take k) = x at *
      have HX := u32_xor_nat x c hc (by omega)
      have hy : x ^^^ c < 4294967296 := Nat.xor_lt_two_pow (n := 32) (by omega) (by omega)
      generalize x ^^^ c = y at *
      clear hat hs
      go_wp2_with fail
      go_loop [3, 5] (fun r j => ∃ n : Nat, n ≤ 8 ∧ j = .int .i64 (n : Int) ∧ r = .int .u32 ((cstepN n y : Nat) : Int)) (fun _ j => 8 - (intOf j).toNat)
      case atStart => exact ⟨0, Nat.zero_le _, rfl, rfl⟩
      case round =>
        obtain ⟨n, hn, rfl, rfl⟩ := hrel
        have hz := cstepN_lt n y hy
        have HZ : Hid (cstepN (n + 1) y = if cstepN n y % 2 = 1 then cstepN n y / 2 ^^^ 3988292384 else cstepN n y / 2) := (cstepN_succ n y).trans (refstep _)
        generalize hx : cstepN n y = z at *
        by_cases h8 : n < 8
        · have HA := and1_u32 z hz
          by_cases hodd : z % 2 = 1
          · rw [hodd] at HA
            have HB2 := u32_xor_nat (z / 2) 3988292384 (by omega) (by decide)
            rw [show ((z / 2 : Nat) : Int) = (z : Int) / 2 by omega] at HB2
            go_wp2_with fail
            refine ⟨⟨n + 1, by omega, rfl, ?_⟩, ?_⟩
            · rw [HZ.out, if_pos hodd, ← HB2]; rfl
            · simp [intOf]
              omega
          · rw [show z % 2 = 0 by omega] at HA
            go_wp2_with fail
            refine ⟨⟨n + 1, by omega, rfl, ?_⟩, ?_⟩
            · rw [HZ.out, if_neg hodd]
              congr 1
            · simp [intOf]
              omega
        · have e8 : n = 8 := by omega
          subst e8
          have HX8 : Hid (cstepN 8 y = z) := hx
          clear hx
          go_wp2_with fail
          refine ⟨⟨k + 1, by omega, rfl, by rw [HS.out, HX8.out], m, rfl⟩, ?_⟩
          simp [intOf]
          omega
    · have e : k = B.length := by omega
      subst e
      rw [List.take_length] at *
      have HN := not_u32 _ hc
      have HC : Hid (crc B = 4294967295 - crcF 4294967295 B) := rfl
      generalize crcF 4294967295 B = x at *
      go_wp2_with fail
      go_ret
      exact ⟨ret_int (by rw [HC.out]; exact HN), m, rfl⟩
#print axioms sum_any
#print axioms rsum_any
end Go.Proofs.YtlhikoomghbnjaaGreatDoor
