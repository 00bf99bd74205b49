/- begun: the smallest file comes, and goes back. -/
import Derived.Test.YtlhikoomghbnjaaGreatDoorZRee
import Derived.Test.YtlhikoomghbnjaaGreatDoorZSam
import Derived.Lib.SlBytesConst
namespace Go.Proofs.YtlhikoomghbnjaaGreatDoor
open Go.RowKit
attribute [local go_sem ↓] Go.wp_at_zero Go.wp_at_succ

theorem bs_of_own {w : World} {base : Nat} {v : Value} {B : List Nat} (h : w.ownsRow base 5 1 v B.length (byteVals B)) (h0 : 0 < B.length) : ∃ g cap, v = .slice (some ⟨g, 0, none⟩) B.length cap ∧ Bs w v B := by
  have hc := h.1
  rcases h.2 with ⟨hv, hz⟩ | ⟨g, cap, cur, hv, hb, hg, h1, h2, h3, h4⟩
  · omega
  · refine ⟨g, cap, hv, some ⟨g, 0, none⟩, cap, hv, h1, h2, (fun e => by cases e), Or.inr ⟨g, 0, rfl, lt_of_block hg, fun i hi => ?_⟩⟩
    have := h.cells (g := g) (by rw [hv]; rfl) i (.int .u8 ((B[i] : Nat) : Int)) (by simp [byteVals, hi])
    rwa [add_none] at this
theorem mimeS_is : mimeS = ⟨#[97, 112, 112, 108, 105, 99, 97, 116, 105, 111, 110, 47, 118, 110, 100, 46, 111, 97, 115, 105, 115, 46, 111, 112, 101, 110, 100, 111, 99, 117, 109, 101, 110, 116, 46, 115, 112, 114, 101, 97, 100, 115, 104, 101, 101, 116]⟩ := by decide +kernel
set_option maxRecDepth 100000 in
set_option maxHeartbeats 4000000 in
theorem begun_true (w : World) (hT : Tabs w) : Calls Tryz.prog 5 #[] w fun e w' => e = .returned (.bool true) ∧ Fr noB w w' := by
  have hcv := Lib.run_convert_bytes_const (P := Tryz.prog) w 22 5 #[.int .u8 97, .int .u8 112, .int .u8 112, .int .u8 108, .int .u8 105, .int .u8 99, .int .u8 97, .int .u8 116, .int .u8 105, .int .u8 111, .int .u8 110, .int .u8 47, .int .u8 118, .int .u8 110, .int .u8 100, .int .u8 46, .int .u8 111, .int .u8 97, .int .u8 115, .int .u8 105, .int .u8 115, .int .u8 46, .int .u8 111, .int .u8 112, .int .u8 101, .int .u8 110, .int .u8 100, .int .u8 111, .int .u8 99, .int .u8 117, .int .u8 109, .int .u8 101, .int .u8 110, .int .u8 116, .int .u8 46, .int .u8 115, .int .u8 112, .int .u8 114, .int .u8 101, .int .u8 97, .int .u8 100, .int .u8 115, .int .u8 104, .int .u8 101, .int .u8 101, .int .u8 116] 46 46 Tryz.underlying22 Tryz.underlying5
  have hA : Fr noB w ((w.alloc (.cells (byteVals mimeB).toArray 5 (46, 47))).alloc (.cells #[.string mimeN, .slice (some ⟨w.heap.size, 0, none⟩) 46 46, .bool true] 29 (0, 0))) := ((Fr.refl noB w).alloc _).alloc _
  have m0 : MimeF ((w.alloc (.cells (byteVals mimeB).toArray 5 (46, 47))).alloc (.cells #[.string mimeN, .slice (some ⟨w.heap.size, 0, none⟩) 46 46, .bool true] 29 (0, 0))) w.heap.size := ⟨(46, 47), (Below.heap_alloc _ _ _ (by simp)).trans (heap_alloc_new w _)⟩
  have l0 : OneAt ((w.alloc (.cells (byteVals mimeB).toArray 5 (46, 47))).alloc (.cells #[.string mimeN, .slice (some ⟨w.heap.size, 0, none⟩) 46 46, .bool true] 29 (0, 0))) (w.heap.size + 1) w.heap.size := by
    have e := heap_alloc_new (w.alloc (.cells (byteVals mimeB).toArray 5 (46, 47))) (.cells #[.string mimeN, .slice (some ⟨w.heap.size, 0, none⟩) 46 46, .bool true] 29 (0, 0))
    rwa [World.size_alloc] at e
  have HC1 : Hid _ := write_mime (w.heap.size + 1) w.heap.size _ l0 m0 (hT.keep hA)
  have HL0 : Hid (OneC ((w.alloc (.cells (byteVals mimeB).toArray 5 (46, 47))).alloc (.cells #[.string mimeN, .slice (some ⟨w.heap.size, 0, none⟩) 46 46, .bool true] 29 (0, 0))) (w.heap.size + 1) w.heap.size) := l0.c
  have HM0 : Hid (MimeF ((w.alloc (.cells (byteVals mimeB).toArray 5 (46, 47))).alloc (.cells #[.string mimeN, .slice (some ⟨w.heap.size, 0, none⟩) 46 46, .bool true] 29 (0, 0))) w.heap.size) := m0
  have HA : Hid _ := hA
  have HT : Hid (Tabs w) := hT
  clear hA m0 l0 hT
  go_enter Tryz.func5, Tryz.ntmps5
  go_wp2_with (go_at_call 12; refine (show Calls _ _ _ _ _ from HC1.out).mono ?_; rintro e w1 ⟨v, rfl, hO1, hF1⟩)
  obtain ⟨g, cap, rfl, hb1⟩ := bs_of_own hO1 (by rw [mimeF_len]; decide)
  rw [mimeF_len] at hb1
  have C2 := read_mime (some ⟨g, 0, none⟩) cap w1 hb1 (HT.out.keep (HA.out.trans hF1))
  rw [mimeF_len]
  have HMT := mimetype_any
  rw [mimeS_is] at HMT
  have HSM : Hid (∀ w2 g2 lb2 cp2, Fr noB w1 w2 → OneC w2 lb2 g2 → MimeAt w2 g2 → Calls Tryz.prog 11 #[.slice (some ⟨w.heap.size + 1, 0, none⟩) 1 1, .slice (some ⟨lb2, 0, none⟩) 1 cp2] w2 fun e w3 => e = .returned (.bool true) ∧ Fr noB w2 w3) := fun w2 g2 lb2 cp2 hF2 h1 h2 =>
    same_one (w.heap.size + 1) lb2 1 cp2 mimeN true (some ⟨w.heap.size, 0, none⟩) (some ⟨g2, 0, none⟩) 46 46 46 mimeB w2 ((HL0.out.keep hF1).keep hF2) h1 ((HM0.out.fr hF1 id).fr hF2 id).bs h2.bs mime_lt
  have HG : Hid (Fr noB w w1) := HA.out.trans hF1
  clear HC1 HL0 HM0 HA hO1 hb1 hF1 hcv
  go_wp2_with (first
    | (go_at_call 13; refine C2.mono ?_; rintro e w2 ⟨g2, lb2, cp2, rfl, h1, h2, -, -, hF2⟩)
    | (go_at_call 11; refine (HSM.out _ _ _ _ hF2 h1 h2).mono ?_; rintro e w3 ⟨rfl, hF3⟩)
    | (go_at_call 14; refine (HMT _).mono ?_; rintro e w4 ⟨rfl, rfl⟩))
  go_ret
  exact ⟨rfl, (HG.out.trans hF2).trans hF3⟩
#print axioms begun_true
end Go.Proofs.YtlhikoomghbnjaaGreatDoor
