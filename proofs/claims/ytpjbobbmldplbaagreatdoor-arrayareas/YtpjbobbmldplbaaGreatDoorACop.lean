/- Copies of arrays. -/
import Derived.Test.YtpjbobbmldplbaaGreatDoorK14
import Derived.OwnWalk
import Derived.Deep.AppendLies
namespace Go.Proofs.YtpjbobbmldplbaaGreatDoor
open Go.RowKit Ieee Go.Shelf
attribute [local go_sem] run_store_float

theorem Tryz.infoV : (Tryz.prog.info? 37).map (fun i => (i.zero, i.size, i.bytes)) = some (some (.agg #[.int .i64 0, .float .f64 0, .string ⟨#[]⟩, .bool false, .int .i64 0]), 5, 48) := by kernel_rfl
theorem own_keep {w w' : World} {base n : Nat} {e : TypeId} {k : Nat} {v : Value} {xs : List Value} (h : w.ownsRow base e k v n xs) (hF : Fr noB w w') : w'.ownsRow base e k v n xs := by
  obtain ⟨h1, h2⟩ := h
  refine ⟨h1, ?_⟩
  rcases h2 with h2 | ⟨g, cap, cur, hv, hg, hh, r⟩
  · exact Or.inl h2
  · exact Or.inr ⟨g, cap, cur, hv, hg, hF.obj hh id, r⟩
theorem own_keep1 {w w' : World} {base n g0 : Nat} {e : TypeId} {k : Nat} {v : Value} {xs : List Value} (h : w.ownsRow base e k v n xs) (hF : Fr (oneB g0) w w') (hg0 : g0 < base) : w'.ownsRow base e k v n xs := by
  obtain ⟨h1, h2⟩ := h
  refine ⟨h1, ?_⟩
  rcases h2 with h2 | ⟨g, cap, cur, hv, hg, hh, r⟩
  · exact Or.inl h2
  · exact Or.inr ⟨g, cap, cur, hv, hg, hF.obj hh (show ¬ g = g0 by omega), r⟩
theorem own_base {base n : Nat} {w : World} {v : Value} {xs : List Value} {t : TypeId} {sz : Nat} (h : w.ownsRow base t sz v n xs) : ∀ b, v.ownBlock = some b → base ≤ b := by
  intro b e
  obtain ⟨_, h2⟩ := h
  rcases h2 with ⟨h2, _⟩ | ⟨g, cap, cur, hv, hg, hh, _⟩
  · rw [h2] at e; simp [Value.ownBlock] at e
  · rw [hv] at e
    simp [Value.ownBlock] at e
    omega
theorem own_slice {base n : Nat} {w : World} {v : Value} {xs : List Value} {t : TypeId} {sz : Nat} (h : w.ownsRow base t sz v n xs) : ∃ so sc, v = .slice so n sc := by
  obtain ⟨_, h2⟩ := h
  rcases h2 with ⟨h2, h3⟩ | ⟨g, cap, cur, hv, _⟩
  · exact ⟨_, _, by rw [h2, h3]⟩
  · exact ⟨_, _, hv⟩
/-- A row of one's own that holds values: where they lie. -/
theorem own_vs {base : Nat} {w : World} {v : Value} {t : TypeId} {L : List Vv} {n : Nat} (h : w.ownsRow base t 5 v n (vsC L)) (hn : L.length = n) : ∃ so sc, v = .slice so n sc ∧ VsAt w so L := by
  have hs := h
  obtain ⟨_, h2⟩ := h
  rcases h2 with ⟨h2, h3⟩ | ⟨g, cap, cur, hv, hg, hh, _⟩
  · exact ⟨none, 0, by rw [h2, h3], Or.inl (List.eq_nil_of_length_eq_zero (by omega))⟩
  · refine ⟨some ⟨g, 0, none⟩, cap, hv, Or.inr ⟨g, 0, rfl, lt_of_block hh, fun i hi => ?_⟩⟩
    have hc := hs.cells (g := g) (by rw [hv]; rfl)
    have key : ∀ j, j < 5 → ∀ u, (vC L[i])[j]? = some u → w.cell? ⟨g, i * 5 + j, none⟩ = some u := by
      intro j hj u hu
      have hh := hc (i * 5 + j) u (by rw [vsC_get L i hi j hj]; exact hu)
      rw [Addr.add_lit, Nat.zero_add] at hh
      exact hh
    refine ⟨?_, ?_, ?_, ?_, ?_⟩
    · have := key 0 (by decide) _ rfl
      simpa using this
    · have := key 1 (by decide) _ rfl
      simpa using this
    · have := key 2 (by decide) _ rfl
      simpa using this
    · have := key 3 (by decide) _ rfl
      simpa using this
    · have := key 4 (by decide) _ rfl
      simpa using this
theorem VsAt.keep1 {w w' : World} {g : Nat} {so : Option Addr} {L : List Vv} (h : VsAt w so L) (hF : Fr (oneB g) w w') (hn : ∀ b o, so = some ⟨b, o, none⟩ → b ≠ g) : VsAt w' so L := by
  rcases h with h | ⟨b, off, rfl, hb, hc⟩
  · exact Or.inl h
  · have hg : ¬ oneB g b := hn b off rfl
    exact Or.inr ⟨b, off, rfl, Nat.lt_of_lt_of_le hb hF.size, fun i hi => ⟨(hF.cell (a := ⟨b, off + i * 5, none⟩) hb hg).trans (hc i hi).1, (hF.cell (a := ⟨b, off + i * 5 + 1, none⟩) hb hg).trans (hc i hi).2.1, (hF.cell (a := ⟨b, off + i * 5 + 2, none⟩) hb hg).trans (hc i hi).2.2.1, (hF.cell (a := ⟨b, off + i * 5 + 3, none⟩) hb hg).trans (hc i hi).2.2.2.1, (hF.cell (a := ⟨b, off + i * 5 + 4, none⟩) hb hg).trans (hc i hi).2.2.2.2⟩⟩
theorem take_snoc (L : List Vv) (k : Nat) (h : k < L.length) : L.take (k + 1) = L.take k ++ [L[k]] := by
  rw [List.take_succ_eq_append_getElem h]
set_option maxRecDepth 100000 in
set_option maxHeartbeats 4000000 in
theorem copied_any (r c : Int) (ao : Option Addr) (cap : Nat) (L : List Vv) (w : World) (hA : VsAt w ao L) (hl : L.length * 48 ≤ 140737488355328) (hV : ∀ y ∈ L, Vok y) :
    Calls Tryz.prog 37 #[.agg #[.int .i64 r, .int .i64 c, .slice ao L.length cap]] w fun e w' => ∃ so sc, e = .returned (.agg #[.int .i64 r, .int .i64 c, .slice so L.length sc]) ∧ VsAt w' so L ∧ (∀ b o, so = some ⟨b, o, none⟩ → w.heap.size ≤ b) ∧ Fr noB w w' := by
  obtain ⟨i0, hi, hz0, hz1, hz2⟩ := info_parts Tryz.infoV
  obtain ⟨n, hn⟩ : ∃ n, L.length = n := ⟨_, rfl⟩
  have HN : Hid (L.length = n) := hn
  rw [hn] at hl ⊢
  clear hn
  obtain ⟨W0, hW0⟩ : ∃ W0, (w.alloc (.cells #[.int .i64 r, .int .i64 c, .slice ao n cap] 27 (0, 0))).alloc (.cells #[.int .i64 0, .int .i64 0, .slice none 0 0] 27 (0, 0)) = W0 := ⟨_, rfl⟩
  have hX : AAt W0 w.heap.size r c ao n cap := by rw [← hW0]; exact ⟨old1 (new1 _ _ _ rfl)⟩
  have hO : AAt W0 (w.heap.size + 1) 0 0 none 0 0 := by rw [← hW0]; exact ⟨new1 _ _ _ (by simp)⟩
  have hF : Fr noB w W0 := by rw [← hW0]; exact ((Fr.refl noB w).alloc _).alloc _
  have hs : W0.heap.size = w.heap.size + 1 + 1 := by rw [← hW0]; simp
  have HX : Hid (AAt W0 w.heap.size r c ao n cap ∧ AAt W0 (w.heap.size + 1) 0 0 none 0 0 ∧ Fr noB w W0 ∧ W0.heap.size = w.heap.size + 1 + 1) := ⟨hX, hO, hF, hs⟩
  have HW0 : Hid _ := hW0
  have HA : Hid (VsAt w ao L) := hA
  have HV : Hid (∀ y ∈ L, Vok y) := hV
  clear hX hO hF hs hA hV hW0
  have hm : maxLen = 9223372036854775807 := rfl
  go_enter Tryz.func37, Tryz.ntmps37
  go_wp2_with (at_make; refine wpList_make_own _ rfl _ _ 25 rfl (w.heap.size + 1 + 1) 37 i0 (.agg #[.int .i64 0, .float .f64 0, .string ⟨#[]⟩, .bool false, .int .i64 0]) 5 Tryz.underlying25 hi hz0 hz1 .i64 .i64 _ n rfl rfl (by omega) (by rw [hz2]; omega) (by omega) (by simp) ?_)
  rw [HW0.out]
  intro w1 hown1 hg1
  have hF1 : Fr noB W0 w1 := (Fr.refl noB _).grown hg1 (by simp)
  have hX1 := HX.out.1.fr hF1 id
  have x0 : w1.cell? ⟨w.heap.size, 0, none⟩ = some (.int .i64 r) := cellOf (o := 0) hX1.o rfl
  have x1 : w1.cell? ⟨w.heap.size, 1, none⟩ = some (.int .i64 c) := cellOf (o := 1) hX1.o rfl
  have x2 : w1.cell? ⟨w.heap.size, 2, none⟩ = some (.slice ao n cap) := cellOf (o := 2) hX1.o rfl
  have HO1 : Hid (w1.ownsRow (w.heap.size + 1 + 1) 37 5 (.slice (some ⟨w.heap.size + 1 + 1, 0, none⟩) 0 n) 0 (vsC (L.take 0))) := hown1
  have HF1 : Hid (Fr noB W0 w1) := hF1
  clear hown1 hg1 hF1 hX1
  go_wp2_with fail
  clear x0 x1 x2
  go_loopg [3, 13] n (fun gh sv iv wr => ∃ k : Nat, k ≤ n ∧ gh = n - k ∧ iv = .int .i64 (k : Int) ∧ Hid (wr.ownsRow (w.heap.size + 1 + 1) 37 5 sv k (vsC (L.take k))) ∧ Fr noB W0 wr)
  case atStart => exact ⟨0, Nat.zero_le _, rfl, rfl, HO1.out, HF1.out⟩
  case round =>
    obtain ⟨k, hk, rfl, rfl, HO, hF⟩ := hrel
    by_cases hlt : k < n
    · have hkL : k < L.length := by rw [HN.out]; exact hlt
      obtain ⟨b, off, rfl, hb, c0, c1, c2, c3, c4⟩ := (HA.out.keep (HX.out.2.2.1.trans hF)).get k hkL
      obtain ⟨v, hv⟩ : ∃ v, L[k] = v := ⟨_, rfl⟩
      have hVk : Vok v := by rw [← hv]; exact HV.out _ (List.getElem_mem hkL)
      have HT : Hid (L.take (k + 1) = L.take k ++ [v]) := by rw [← hv]; exact take_snoc L k hkL
      rw [hv] at c0 c1 c2 c3 c4
      clear hv hkL
      have HC : ∀ W, _ := own_any v.k v.n v.s v.y v.e hVk.2
      have HF : Hid (Fr noB W0 wr) := hF
      obtain ⟨vk, vn, vs, vy, ve⟩ := v
      simp only at c0 c1 c2 c3 c4 HC
      have hsz : w.heap.size + 1 + 1 ≤ wr.heap.size := by rw [← HX.out.2.2.2]; exact hF.size
      clear hF hVk
      obtain ⟨so, sc, rfl⟩ := own_slice HO.out
      have HNw : ∀ (W : World) (j : Nat) (u : Value), (vC ⟨vk, vn, vs, vy, ve⟩)[j]? = some u → (W.alloc (.cells #[.int .i64 vk, .float .f64 vn, .string vs, .bool vy, .int .i64 ve] 37 (0, 0))).cell? ((⟨W.heap.size, 0, none⟩ : Addr).add j) = some u := fun W => World.news_of_block (heap_alloc_new W (.cells #[.int .i64 vk, .float .f64 vn, .string vs, .bool vy, .int .i64 ve] 37 (0, 0)))
      have HLw : Hid ((vC ⟨vk, vn, vs, vy, ve⟩).length = 1 * 5) := rfl
      have HOw : Hid (∀ u ∈ vC ⟨vk, vn, vs, vy, ve⟩, u.oneCell' = true) := vC_oneCell _
      have HB : Hid (∀ b, (Value.slice so k sc).ownBlock = some b → W0.heap.size ≤ b) := fun b hb => by rw [HX.out.2.2.2]; exact own_base HO.out b hb
      go_wp2_with (first
        | (go_at_call 20; refine (HC _).mono ?_; rintro e w2 ⟨rfl, hF2⟩
           have hG2 := (((Fr.refl noB wr).alloc (.cells #[.int .i64 vk, .float .f64 vn, .string vs, .bool vy, .int .i64 ve] 37 (0, 0))).trans hF2).alloc (.cells #[.int .i64 vk, .float .f64 vn, .string vs, .bool vy, .int .i64 ve] 37 (0, 0))
           have hO2 := own_keep HO.out hG2
           have hz2s := hG2.size)
        | (at_builtin; refine wpList_append_own _ rfl (.tmp 17) (.tmp 20) 25 rfl (w.heap.size + 1 + 1) 37 i0 (.agg #[.int .i64 0, .float .f64 0, .string ⟨#[]⟩, .bool false, .int .i64 0]) 5 48 Tryz.underlying25 hi hz0 hz1 hz2 rfl (by decide) _ k (vsC (L.take k)) rfl hO2 ⟨w2.heap.size, 0, none⟩ 1 1 (vC ⟨vk, vn, vs, vy, ve⟩) rfl HLw.out (HNw w2) HOw.out (by omega) (by omega) (by omega) ?_))
      intro v3 w3 hown3 hg3 _
      have HO3 : Hid (w3.ownsRow (w.heap.size + 1 + 1) 37 5 v3 (k + 1) (vsC (L.take (k + 1)))) := by rw [HT.out, vsC_app, vsC_one]; exact hown3
      have HF3 : Hid (Fr noB W0 w3) := (HF.out.trans hG2).grown hg3 (fun b hb => Or.inr (HB.out b hb))
      clear hown3 hg3 hO2 hG2 hF2 hz2s HO
      go_wp2_with fail
      go_roundg (n - (k + 1))
      case measure => omega
      case rel => exact ⟨k + 1, by omega, rfl, by go_num, HO3.out, HF3.out⟩
    · obtain rfl : k = n := by omega
      obtain ⟨so, sc, rfl, hVs⟩ := own_vs HO.out (by rw [List.length_take, HN.out]; omega)
      have hVs2 : VsAt wr so L := by rw [← HN.out, List.take_length] at hVs; exact hVs
      have HVs : Hid (VsAt wr so L) := hVs2
      have hX1 := HX.out.1.fr hF id
      have x0 : wr.cell? ⟨w.heap.size, 0, none⟩ = some (.int .i64 r) := cellOf (o := 0) hX1.o rfl
      have x1 : wr.cell? ⟨w.heap.size, 1, none⟩ = some (.int .i64 c) := cellOf (o := 1) hX1.o rfl
      have HF : Hid (Fr noB W0 wr) := hF
      clear hVs hVs2 hX1 hF
      go_wp2_with (refine wpList_store_arr rfl (.tmp 2) (.tmp 28) rfl (w.heap.size + 1) r c so k sc rfl rfl (HX.out.2.1.fr HF.out id) ?_; intro W hW hFW)
      refine bodyPost_ret (aret Tryz.results37 _ _ _ rfl hW) rfl ⟨so, sc, rfl, ?_, fun b o hb => (by subst hb; have := own_base HO.out b rfl; omega), (HX.out.2.2.1.trans HF.out).new hFW (by omega)⟩
      obtain ⟨so2, sc2, he, hv⟩ := own_vs (own_keep1 HO.out hFW (by omega)) (by rw [List.length_take, HN.out]; omega)
      injection he with he1 _ _
      rw [← HN.out, List.take_length] at hv
      rw [he1]
      exact hv
#print axioms copied_any
end Go.Proofs.YtpjbobbmldplbaaGreatDoor
