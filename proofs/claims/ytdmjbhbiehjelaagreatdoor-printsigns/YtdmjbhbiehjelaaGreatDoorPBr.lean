/- Which fields two terms have alike; nothing but what the operation has. -/
import Derived.Test.YtdmjbhbiehjelaaGreatDoorK01
import Derived.Test.YtdmjbhbiehjelaaGreatDoorPSm
import Derived.Test.YtdmjbhbiehjelaaGreatDoorLEq
import Derived.Test.YtdmjbhbiehjelaaGreatDoorXSgn
namespace Go.Proofs.YtdmjbhbiehjelaaGreatDoor
open Go.RowKit Go.BigFrame

theorem load_ref {W : World} {B o : Nat} (r1 r2 : ByteArray) (r3 r4 : Bool) (r5 r6 : Int) (r7 r8 : Bool) (r9 r10 : Int) (r11 r12 : Bool) (h : ∀ j v, [.string r1, .string r2, .bool r3, .bool r4, .int .i64 r5, .int .i64 r6, .bool r7, .bool r8, .int .i64 r9, .int .i64 r10, .bool r11, .bool r12][j]? = some v → W.cell? ⟨B, o + j, none⟩ = some v) : (Instr.loadAt 26 (.pointer (some ⟨B, o, none⟩))).run Tryz.prog W = .ok (.agg #[.string r1, .string r2, .bool r3, .bool r4, .int .i64 r5, .int .i64 r6, .bool r7, .bool r8, .int .i64 r9, .int .i64 r10, .bool r11, .bool r12]) W := by
  have hu := Tryz.underlying26
  have g0 := h 0 _ rfl
  have g1 := h 1 _ rfl
  have g2 := h 2 _ rfl
  have g3 := h 3 _ rfl
  have g4 := h 4 _ rfl
  have g5 := h 5 _ rfl
  have g6 := h 6 _ rfl
  have g7 := h 7 _ rfl
  have g8 := h 8 _ rfl
  have g9 := h 9 _ rfl
  have g10 := h 10 _ rfl
  have g11 := h 11 _ rfl
  simp only [Nat.add_zero] at g0
  simp [go_sem, g0, g1, g2, g3, g4, g5, g6, g7, g8, g9, g10, g11]
section
variable {P : Program} {C : World → Prop} {K : Act → Prop} {o : Oper} {a : Act}
/-- In a quiet region: a load by its run. -/
theorem q_load (x : Operand) (ty : TypeId) (pv V : Value) (ho : o.op = .load ty x) (hx : a.eval x = pv) (hl : ∀ w, C w → (Instr.loadAt ty pv).run P w = .ok V w) (hk : K (a.put o.dst V)) : o.quiet P a C K :=
  ⟨V, fun w hw => by
    unfold Oper.quietAt execOp
    simp only [ho, hx, Sem.run_bind, Sem.run_pure, hl w hw, Result.andThen_ok]
    exact ⟨rfl, rfl⟩, hk⟩
/-- In a quiet region: two structs held against each other. -/
theorem q_eql (x y : Operand) (ty u : TypeId) (xs ys : Array Value) (V : Value) (ho : o.op = .binOp .eql ty x y u) (hx : a.eval x = .agg xs) (hy : a.eval y = .agg ys) (hm : P.eqGuardType P.depth ty = false) (hl : ∀ w, (binOp .eql ty (.agg xs) (.agg ys)).run P w = .ok V w) (hk : K (a.put o.dst V)) : o.quiet P a C K :=
  ⟨V, fun w _ => by
    unfold Oper.quietAt execOp
    simp only [ho, hx, hy, Sem.run_bind, Sem.run_pure, run_eqGuard_agg _ _ _ _ _ _ _ hm, hl w, Result.andThen_ok]
    exact ⟨rfl, rfl⟩, hk⟩
end
set_option maxRecDepth 100000 in
set_option maxHeartbeats 2000000 in
theorem same_any (b o b2 o2 : Nat) (p q : Int) (x y : Nat) (t u : ByteArray) (er fr : Int) (nm mm : ByteArray) (xs ys : Array Value) (rw sw : Int) (R : Bool) (w : World)
    (c0 : w.cell? ⟨b, o, none⟩ = some (.int .i64 p)) (c1 : w.cell? ⟨b, o + 1, none⟩ = some (.float .f64 x)) (c2 : w.cell? ⟨b, o + 2, none⟩ = some (.string t)) (c3 : w.cell? ⟨b, o + 3, none⟩ = some (.int .i64 er)) (c4 : w.cell? ⟨b, o + 4, none⟩ = some (.string nm)) (c17 : w.cell? ⟨b, o + 17, none⟩ = some (.int .i64 rw))
    (d0 : w.cell? ⟨b2, o2, none⟩ = some (.int .i64 q)) (d1 : w.cell? ⟨b2, o2 + 1, none⟩ = some (.float .f64 y)) (d2 : w.cell? ⟨b2, o2 + 2, none⟩ = some (.string u)) (d3 : w.cell? ⟨b2, o2 + 3, none⟩ = some (.int .i64 fr)) (d4 : w.cell? ⟨b2, o2 + 4, none⟩ = some (.string mm)) (d17 : w.cell? ⟨b2, o2 + 17, none⟩ = some (.int .i64 sw))
    (hLa : ∀ n, (Instr.loadAt 26 (.pointer (some ⟨b, o + 5, none⟩))).run Tryz.prog (w.drewN n) = .ok (.agg xs) (w.drewN n)) (hLb : ∀ n, (Instr.loadAt 26 (.pointer (some ⟨b2, o2 + 5, none⟩))).run Tryz.prog (w.drewN n) = .ok (.agg ys) (w.drewN n)) (hR : ∀ W, (binOp .eql 26 (.agg xs) (.agg ys)).run Tryz.prog W = .ok (.bool R) W) :
    Calls Tryz.prog 95 #[.pointer (some ⟨b, o, none⟩), .pointer (some ⟨b2, o2, none⟩)] w fun e w' => e = .returned (.bool ((p == q) && ((x : Int) == (y : Int)) && (t.toList == u.toList) && (er == fr) && (nm.toList == mm.toList) && R && (rw == sw))) ∧ Fr noB w w' := by
  have hx := run_bits x
  have hy := run_bits y
  cases e0 : (p == q) with
  | false =>
    go_enter Tryz.func95, Tryz.ntmps95
    go_wp2_with fail
    refine wp_region_quiet_lit (by kernel_rfl) (by kernel_rfl) ?_
    dsimp only [List.append]
    repeat (go_big_quiet_step (fail))
    refine wpQuiet_nil ?_
    intro _ hw'
    obtain ⟨nq, hw''⟩ := hw'
    subst hw''
    go_wp2_with fail
    go_ret
    exact ⟨rfl, (Fr.refl noB w).drewN _⟩
  | true =>
    cases e1 : ((x : Int) == (y : Int)) with
    | false =>
      go_enter Tryz.func95, Tryz.ntmps95
      go_wp2_with fail
      refine wp_region_quiet_lit (by kernel_rfl) (by kernel_rfl) ?_
      dsimp only [List.append]
      repeat (go_big_quiet_step (fail))
      refine wpQuiet_nil ?_
      intro _ hw'
      obtain ⟨nq, hw''⟩ := hw'
      subst hw''
      go_wp2_with fail
      go_ret
      exact ⟨rfl, (Fr.refl noB w).drewN _⟩
    | true =>
      cases e2 : (t.toList == u.toList) with
      | false =>
        go_enter Tryz.func95, Tryz.ntmps95
        go_wp2_with fail
        refine wp_region_quiet_lit (by kernel_rfl) (by kernel_rfl) ?_
        dsimp only [List.append]
        repeat (go_big_quiet_step (fail))
        refine wpQuiet_nil ?_
        intro _ hw'
        obtain ⟨nq, hw''⟩ := hw'
        subst hw''
        go_wp2_with fail
        go_ret
        exact ⟨rfl, (Fr.refl noB w).drewN _⟩
      | true =>
        cases e3 : (er == fr) with
        | false =>
          go_enter Tryz.func95, Tryz.ntmps95
          go_wp2_with fail
          refine wp_region_quiet_lit (by kernel_rfl) (by kernel_rfl) ?_
          dsimp only [List.append]
          repeat (go_big_quiet_step (fail))
          refine wpQuiet_nil ?_
          intro _ hw'
          obtain ⟨nq, hw''⟩ := hw'
          subst hw''
          go_wp2_with fail
          go_ret
          exact ⟨rfl, (Fr.refl noB w).drewN _⟩
        | true =>
          cases e4 : (nm.toList == mm.toList) with
          | false =>
            go_enter Tryz.func95, Tryz.ntmps95
            go_wp2_with fail
            refine wp_region_quiet_lit (by kernel_rfl) (by kernel_rfl) ?_
            dsimp only [List.append]
            repeat (go_big_quiet_step (fail))
            refine wpQuiet_nil ?_
            intro _ hw'
            obtain ⟨nq, hw''⟩ := hw'
            subst hw''
            go_wp2_with fail
            go_ret
            exact ⟨rfl, (Fr.refl noB w).drewN _⟩
          | true =>
            cases R with
            | false =>
              go_enter Tryz.func95, Tryz.ntmps95
              go_wp2_with fail
              refine wp_region_quiet_lit (by kernel_rfl) (by kernel_rfl) ?_
              dsimp only [List.append]
              repeat (go_big_quiet_step (fail))
              go_big_quiet_want
              refine q_load (.tmp 63) 26 _ _ rfl rfl (fun w' hw' => by obtain ⟨n, rfl⟩ := hw'; exact hLa n) ?_
              simp only [Act.put, List.setIfInBounds_toArray, List.set_cons_succ, List.set_cons_zero]
              go_big_quiet_on
              repeat (go_big_quiet_step (fail))
              go_big_quiet_want
              refine q_load (.tmp 67) 26 _ _ rfl rfl (fun w' hw' => by obtain ⟨n, rfl⟩ := hw'; exact hLb n) ?_
              simp only [Act.put, List.setIfInBounds_toArray, List.set_cons_succ, List.set_cons_zero]
              go_big_quiet_on
              go_big_quiet_want
              refine q_eql (.tmp 64) (.tmp 68) 26 26 xs ys _ rfl rfl rfl (by kernel_rfl) hR ?_
              simp only [Act.put, List.setIfInBounds_toArray, List.set_cons_succ, List.set_cons_zero]
              go_big_quiet_on
              repeat (go_big_quiet_step (fail))
              refine wpQuiet_nil ?_
              intro _ hw'
              obtain ⟨nq, hw''⟩ := hw'
              subst hw''
              go_wp2_with fail
              go_ret
              exact ⟨rfl, (Fr.refl noB w).drewN _⟩
            | true =>
              cases e6 : (rw == sw) with
              | false =>
                go_enter Tryz.func95, Tryz.ntmps95
                go_wp2_with fail
                refine wp_region_quiet_lit (by kernel_rfl) (by kernel_rfl) ?_
                dsimp only [List.append]
                repeat (go_big_quiet_step (fail))
                go_big_quiet_want
                refine q_load (.tmp 63) 26 _ _ rfl rfl (fun w' hw' => by obtain ⟨n, rfl⟩ := hw'; exact hLa n) ?_
                simp only [Act.put, List.setIfInBounds_toArray, List.set_cons_succ, List.set_cons_zero]
                go_big_quiet_on
                repeat (go_big_quiet_step (fail))
                go_big_quiet_want
                refine q_load (.tmp 67) 26 _ _ rfl rfl (fun w' hw' => by obtain ⟨n, rfl⟩ := hw'; exact hLb n) ?_
                simp only [Act.put, List.setIfInBounds_toArray, List.set_cons_succ, List.set_cons_zero]
                go_big_quiet_on
                go_big_quiet_want
                refine q_eql (.tmp 64) (.tmp 68) 26 26 xs ys _ rfl rfl rfl (by kernel_rfl) hR ?_
                simp only [Act.put, List.setIfInBounds_toArray, List.set_cons_succ, List.set_cons_zero]
                go_big_quiet_on
                repeat (go_big_quiet_step (fail))
                refine wpQuiet_nil ?_
                intro _ hw'
                obtain ⟨nq, hw''⟩ := hw'
                subst hw''
                go_wp2_with fail
                go_ret
                exact ⟨rfl, (Fr.refl noB w).drewN _⟩
              | true =>
                go_enter Tryz.func95, Tryz.ntmps95
                go_wp2_with fail
                refine wp_region_quiet_lit (by kernel_rfl) (by kernel_rfl) ?_
                dsimp only [List.append]
                repeat (go_big_quiet_step (fail))
                go_big_quiet_want
                refine q_load (.tmp 63) 26 _ _ rfl rfl (fun w' hw' => by obtain ⟨n, rfl⟩ := hw'; exact hLa n) ?_
                simp only [Act.put, List.setIfInBounds_toArray, List.set_cons_succ, List.set_cons_zero]
                go_big_quiet_on
                repeat (go_big_quiet_step (fail))
                go_big_quiet_want
                refine q_load (.tmp 67) 26 _ _ rfl rfl (fun w' hw' => by obtain ⟨n, rfl⟩ := hw'; exact hLb n) ?_
                simp only [Act.put, List.setIfInBounds_toArray, List.set_cons_succ, List.set_cons_zero]
                go_big_quiet_on
                go_big_quiet_want
                refine q_eql (.tmp 64) (.tmp 68) 26 26 xs ys _ rfl rfl rfl (by kernel_rfl) hR ?_
                simp only [Act.put, List.setIfInBounds_toArray, List.set_cons_succ, List.set_cons_zero]
                go_big_quiet_on
                repeat (go_big_quiet_step (fail))
                refine wpQuiet_nil ?_
                intro _ hw'
                obtain ⟨nq, hw''⟩ := hw'
                subst hw''
                go_wp2_with fail
                go_ret
                exact ⟨rfl, (Fr.refl noB w).drewN _⟩
#print axioms same_any
end Go.Proofs.YtdmjbhbiehjelaaGreatDoor
