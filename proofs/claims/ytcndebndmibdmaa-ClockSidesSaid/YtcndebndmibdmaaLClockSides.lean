/- 'deadheatkeep.ClockSides' returns true for every input and leaves its arguments as they are. No condition. -/
import Derived.Test.YtcndebndmibdmaaOpen
import Derived.Test.YtcndebndmibdmaaRefClock
import Derived.Test.YtcndebndmibdmaaClocked
import Derived.Test.YtcndebndmibdmaaMapInt
set_option linter.all false
namespace Go.Proofs.Ytcndebndmibdmaa.LClockSides
open Go Go.ChangeShapes Go.WideShapes Go.ChangeAt Go.RowKit
set_option linter.unusedVariables false

theorem eqc_comm (a b : Nat → Int) : eqc a b = eqc b a := by
  rw [Bool.eq_iff_iff, eqc_iff, eqc_iff]
  exact ⟨fun h k hk => (h k hk).symm, fun h k hk => (h k hk).symm⟩
theorem eqc_of_within {a b : Nat → Int} (h : within a b = true) (k : within b a = true) : eqc a b = true := (eqc_iff a b).2 fun j hj => by
  have := (within_iff a b).1 h j hj; have := (within_iff b a).1 k j hj; omega

set_option maxHeartbeats 1000000 in
theorem walk (a : Nat → Int) (ka : ClkOk a) (b : Nat → Int) (kb : ClkOk b) (w : World) :
    Calls Try.prog 10 #[.agg (clk a), .agg (clk b)] w fun e w' => e = .returned (.bool true) ∧ Below w.heap.size w w' := by
  obtain ⟨b1, b2, hB, hs⟩ := boxes2 w (clk a) (clk b) 28 28
  generalize hW : ((w.alloc (.cells (clk a) 28)).alloc (.cells (clk b) 28)) = W at *
  have HB := Lib.hid hB
  have HL := Lib.hid (show w.heap.size ≤ W.heap.size by omega)
  have E := eqlC a b
  have G := grdC
  have hcomm := eqc_comm b a
  clear hB hs ka kb
  cases h0 : eqc a b
  · cases h1 : within a b
    · cases h2 : within b a
      · have HX : ∀ w, Calls Try.prog 18 #[.agg (clk a), .agg (clk b)] w fun e w' => e = .returned (.int .i64 3) ∧ Below w.heap.size w w' := fun w => by
          have := compare_any a b w
          rwa [show cmp a b = 3 by simp [cmp, *]] at this
        have HY : ∀ w, Calls Try.prog 18 #[.agg (clk b), .agg (clk a)] w fun e w' => e = .returned (.int .i64 3) ∧ Below w.heap.size w w' := fun w => by
          have := compare_any b a w
          rwa [show cmp b a = 3 by simp [cmp, *]] at this
        have HX' := Lib.hid HX
        have HY' := Lib.hid HY
        clear HX HY
        go_enter Try.func10, Try.ntmps10
        go_wp2_with fail
        (refine region_bel (by kernel_rfl) (by kernel_rfl) ?_; (repeat (first | (refine BigFrame.wpQuiet_skip rfl ?_; simp only [Act.put, Act.eval, List.setIfInBounds_toArray, List.set_cons_zero, List.set_cons_succ, Array.getD_eq_getD_getElem?, List.getElem?_toArray, List.getElem?_cons_zero, List.getElem?_cons_succ, Option.getD_some]) | (refine q_move _ rfl rfl ?_; simp only [Act.put, Act.eval, List.setIfInBounds_toArray, List.set_cons_zero, List.set_cons_succ, Array.getD_eq_getD_getElem?, List.getElem?_toArray, List.getElem?_cons_zero, List.getElem?_cons_succ, Option.getD_some]) | (refine q_assign _ rfl rfl ?_; simp only [Act.put, Act.eval, List.setIfInBounds_toArray, List.set_cons_zero, List.set_cons_succ, Array.getD_eq_getD_getElem?, List.getElem?_toArray, List.getElem?_cons_zero, List.getElem?_cons_succ, Option.getD_some]) | (refine q_load _ _ rfl rfl rfl b1 ty28 ?_; simp only [Act.put, Act.eval, List.setIfInBounds_toArray, List.set_cons_zero, List.set_cons_succ, Array.getD_eq_getD_getElem?, List.getElem?_toArray, List.getElem?_cons_zero, List.getElem?_cons_succ, Option.getD_some]) | (refine q_load _ _ rfl rfl rfl b2 ty28 ?_; simp only [Act.put, Act.eval, List.setIfInBounds_toArray, List.set_cons_zero, List.set_cons_succ, Array.getD_eq_getD_getElem?, List.getElem?_toArray, List.getElem?_cons_zero, List.getElem?_cons_succ, Option.getD_some]) | (refine q_any rfl ?_; apply Exists.intro; refine ⟨fun w hw => ?_, ?_⟩; (go_simp; first | exact ⟨rfl, rfl⟩ | rfl | (go_at_call 18; (with_reducible refine (HX'.out _).mono ?_); rintro e w' ⟨rfl, hb⟩; exact ⟨rfl, hw.call hb⟩) | (go_at_call 18; (with_reducible refine (HY'.out _).mono ?_); rintro e w' ⟨rfl, hb⟩; exact ⟨rfl, hw.call hb⟩)); simp only [Act.put, Act.eval, List.setIfInBounds_toArray, List.set_cons_zero, List.set_cons_succ, Array.getD_eq_getD_getElem?, List.getElem?_toArray, List.getElem?_cons_zero, List.getElem?_cons_succ, Option.getD_some]))); refine wpQuiet_nil ?_; intro w2 hw2)
        have e1 := hw2.box b1
        have e2 := hw2.box b2
        have hmm := @run_makeMap Try.prog
        have U0 : (Instr.mapUpdate 43 (.map (some w2.heap.size)) (.int .i64 0) (.int .i64 0)).run Try.prog (w2.alloc (.map #[] 0)) = .ok () (w2.alloc (.map #[⟨.int .i64 0, .int .i64 0, 0⟩] 1)) := upd_new Try.underlying43 Try.underlying3 _ _ _ _ _ rfl
        have U1 : (Instr.mapUpdate 43 (.map (some w2.heap.size)) (.int .i64 1) (.int .i64 2)).run Try.prog (w2.alloc (.map #[⟨.int .i64 0, .int .i64 0, 0⟩] 1)) = .ok () (w2.alloc (.map #[⟨.int .i64 0, .int .i64 0, 0⟩, ⟨.int .i64 1, .int .i64 2, 1⟩] 2)) := upd_new Try.underlying43 Try.underlying3 _ _ _ _ _ rfl
        have U2 : (Instr.mapUpdate 43 (.map (some w2.heap.size)) (.int .i64 2) (.int .i64 1)).run Try.prog (w2.alloc (.map #[⟨.int .i64 0, .int .i64 0, 0⟩, ⟨.int .i64 1, .int .i64 2, 1⟩] 2)) = .ok () (w2.alloc (.map #[⟨.int .i64 0, .int .i64 0, 0⟩, ⟨.int .i64 1, .int .i64 2, 1⟩, ⟨.int .i64 2, .int .i64 1, 2⟩] 3)) := upd_new Try.underlying43 Try.underlying3 _ _ _ _ _ rfl
        have U3 : (Instr.mapUpdate 43 (.map (some w2.heap.size)) (.int .i64 3) (.int .i64 3)).run Try.prog (w2.alloc (.map #[⟨.int .i64 0, .int .i64 0, 0⟩, ⟨.int .i64 1, .int .i64 2, 1⟩, ⟨.int .i64 2, .int .i64 1, 2⟩] 3)) = .ok () (w2.alloc (.map #[⟨.int .i64 0, .int .i64 0, 0⟩, ⟨.int .i64 1, .int .i64 2, 1⟩, ⟨.int .i64 2, .int .i64 1, 2⟩, ⟨.int .i64 3, .int .i64 3, 3⟩] 4)) := upd_new Try.underlying43 Try.underlying3 _ _ _ _ _ rfl
        have c1 := Box.oldm e1 (.map #[⟨.int .i64 0, .int .i64 0, 0⟩, ⟨.int .i64 1, .int .i64 2, 1⟩, ⟨.int .i64 2, .int .i64 1, 2⟩, ⟨.int .i64 3, .int .i64 3, 3⟩] 4)
        have c2 := Box.oldm e2 (.map #[⟨.int .i64 0, .int .i64 0, 0⟩, ⟨.int .i64 1, .int .i64 2, 1⟩, ⟨.int .i64 2, .int .i64 1, 2⟩, ⟨.int .i64 3, .int .i64 3, 3⟩] 4)
        have F1 : ∀ w', Bel (w2.alloc (.map #[⟨.int .i64 0, .int .i64 0, 0⟩, ⟨.int .i64 1, .int .i64 2, 1⟩, ⟨.int .i64 2, .int .i64 1, 2⟩, ⟨.int .i64 3, .int .i64 3, 3⟩] 4)) w' → (Instr.lookup 43 (.map (some w2.heap.size)) (.int .i64 3) false).run Try.prog w' = .ok (.int .i64 3) w' := fun w' h =>
          look_in Try.underlying43 Try.underlying3 _ _ _ _ _ _ _ ((h.block _ (by simp)).trans (heap_alloc_new w2 _)) rfl
        have HU := Lib.hid hw2
        clear hw2 e1 e2
        go_wp2_with (first | (refine list_bel 17 rfl ?_; (repeat (first | (refine BigFrame.wpQuiet_skip rfl ?_; simp only [Act.put, Act.eval, List.setIfInBounds_toArray, List.set_cons_zero, List.set_cons_succ, Array.getD_eq_getD_getElem?, List.getElem?_toArray, List.getElem?_cons_zero, List.getElem?_cons_succ, Option.getD_some]) | (refine q_move _ rfl rfl ?_; simp only [Act.put, Act.eval, List.setIfInBounds_toArray, List.set_cons_zero, List.set_cons_succ, Array.getD_eq_getD_getElem?, List.getElem?_toArray, List.getElem?_cons_zero, List.getElem?_cons_succ, Option.getD_some]) | (refine q_assign _ rfl rfl ?_; simp only [Act.put, Act.eval, List.setIfInBounds_toArray, List.set_cons_zero, List.set_cons_succ, Array.getD_eq_getD_getElem?, List.getElem?_toArray, List.getElem?_cons_zero, List.getElem?_cons_succ, Option.getD_some]) | (refine q_load _ _ rfl rfl rfl c1 ty28 ?_; simp only [Act.put, Act.eval, List.setIfInBounds_toArray, List.set_cons_zero, List.set_cons_succ, Array.getD_eq_getD_getElem?, List.getElem?_toArray, List.getElem?_cons_zero, List.getElem?_cons_succ, Option.getD_some]) | (refine q_load _ _ rfl rfl rfl c2 ty28 ?_; simp only [Act.put, Act.eval, List.setIfInBounds_toArray, List.set_cons_zero, List.set_cons_succ, Array.getD_eq_getD_getElem?, List.getElem?_toArray, List.getElem?_cons_zero, List.getElem?_cons_succ, Option.getD_some]) | (refine q_any rfl ?_; apply Exists.intro; refine ⟨fun w hw => ?_, ?_⟩; (have fct0 := F1 w hw; go_simp; first | exact ⟨rfl, rfl⟩ | rfl | (go_at_call 27; (with_reducible refine (clocked_any _).mono ?_); rintro e w' ⟨rfl, hb⟩; exact ⟨rfl, hw.call hb⟩)); simp only [Act.put, Act.eval, List.setIfInBounds_toArray, List.set_cons_zero, List.set_cons_succ, Array.getD_eq_getD_getElem?, List.getElem?_toArray, List.getElem?_cons_zero, List.getElem?_cons_succ, Option.getD_some]))); refine wpQuiet_nil ?_; intro w2 hw2))
        go_ret
        exact ⟨rfl, HB.out.trans (((HU.out.alloc _).trans (by assumption)).out.mono HL.out)⟩
      · have HX : ∀ w, Calls Try.prog 18 #[.agg (clk a), .agg (clk b)] w fun e w' => e = .returned (.int .i64 2) ∧ Below w.heap.size w w' := fun w => by
          have := compare_any a b w
          rwa [show cmp a b = 2 by simp [cmp, *]] at this
        have HY : ∀ w, Calls Try.prog 18 #[.agg (clk b), .agg (clk a)] w fun e w' => e = .returned (.int .i64 1) ∧ Below w.heap.size w w' := fun w => by
          have := compare_any b a w
          rwa [show cmp b a = 1 by simp [cmp, *]] at this
        have HX' := Lib.hid HX
        have HY' := Lib.hid HY
        clear HX HY
        go_enter Try.func10, Try.ntmps10
        go_wp2_with fail
        (refine region_bel (by kernel_rfl) (by kernel_rfl) ?_; (repeat (first | (refine BigFrame.wpQuiet_skip rfl ?_; simp only [Act.put, Act.eval, List.setIfInBounds_toArray, List.set_cons_zero, List.set_cons_succ, Array.getD_eq_getD_getElem?, List.getElem?_toArray, List.getElem?_cons_zero, List.getElem?_cons_succ, Option.getD_some]) | (refine q_move _ rfl rfl ?_; simp only [Act.put, Act.eval, List.setIfInBounds_toArray, List.set_cons_zero, List.set_cons_succ, Array.getD_eq_getD_getElem?, List.getElem?_toArray, List.getElem?_cons_zero, List.getElem?_cons_succ, Option.getD_some]) | (refine q_assign _ rfl rfl ?_; simp only [Act.put, Act.eval, List.setIfInBounds_toArray, List.set_cons_zero, List.set_cons_succ, Array.getD_eq_getD_getElem?, List.getElem?_toArray, List.getElem?_cons_zero, List.getElem?_cons_succ, Option.getD_some]) | (refine q_load _ _ rfl rfl rfl b1 ty28 ?_; simp only [Act.put, Act.eval, List.setIfInBounds_toArray, List.set_cons_zero, List.set_cons_succ, Array.getD_eq_getD_getElem?, List.getElem?_toArray, List.getElem?_cons_zero, List.getElem?_cons_succ, Option.getD_some]) | (refine q_load _ _ rfl rfl rfl b2 ty28 ?_; simp only [Act.put, Act.eval, List.setIfInBounds_toArray, List.set_cons_zero, List.set_cons_succ, Array.getD_eq_getD_getElem?, List.getElem?_toArray, List.getElem?_cons_zero, List.getElem?_cons_succ, Option.getD_some]) | (refine q_any rfl ?_; apply Exists.intro; refine ⟨fun w hw => ?_, ?_⟩; (go_simp; first | exact ⟨rfl, rfl⟩ | rfl | (go_at_call 18; (with_reducible refine (HX'.out _).mono ?_); rintro e w' ⟨rfl, hb⟩; exact ⟨rfl, hw.call hb⟩) | (go_at_call 18; (with_reducible refine (HY'.out _).mono ?_); rintro e w' ⟨rfl, hb⟩; exact ⟨rfl, hw.call hb⟩)); simp only [Act.put, Act.eval, List.setIfInBounds_toArray, List.set_cons_zero, List.set_cons_succ, Array.getD_eq_getD_getElem?, List.getElem?_toArray, List.getElem?_cons_zero, List.getElem?_cons_succ, Option.getD_some]))); refine wpQuiet_nil ?_; intro w2 hw2)
        have e1 := hw2.box b1
        have e2 := hw2.box b2
        have hmm := @run_makeMap Try.prog
        have U0 : (Instr.mapUpdate 43 (.map (some w2.heap.size)) (.int .i64 0) (.int .i64 0)).run Try.prog (w2.alloc (.map #[] 0)) = .ok () (w2.alloc (.map #[⟨.int .i64 0, .int .i64 0, 0⟩] 1)) := upd_new Try.underlying43 Try.underlying3 _ _ _ _ _ rfl
        have U1 : (Instr.mapUpdate 43 (.map (some w2.heap.size)) (.int .i64 1) (.int .i64 2)).run Try.prog (w2.alloc (.map #[⟨.int .i64 0, .int .i64 0, 0⟩] 1)) = .ok () (w2.alloc (.map #[⟨.int .i64 0, .int .i64 0, 0⟩, ⟨.int .i64 1, .int .i64 2, 1⟩] 2)) := upd_new Try.underlying43 Try.underlying3 _ _ _ _ _ rfl
        have U2 : (Instr.mapUpdate 43 (.map (some w2.heap.size)) (.int .i64 2) (.int .i64 1)).run Try.prog (w2.alloc (.map #[⟨.int .i64 0, .int .i64 0, 0⟩, ⟨.int .i64 1, .int .i64 2, 1⟩] 2)) = .ok () (w2.alloc (.map #[⟨.int .i64 0, .int .i64 0, 0⟩, ⟨.int .i64 1, .int .i64 2, 1⟩, ⟨.int .i64 2, .int .i64 1, 2⟩] 3)) := upd_new Try.underlying43 Try.underlying3 _ _ _ _ _ rfl
        have U3 : (Instr.mapUpdate 43 (.map (some w2.heap.size)) (.int .i64 3) (.int .i64 3)).run Try.prog (w2.alloc (.map #[⟨.int .i64 0, .int .i64 0, 0⟩, ⟨.int .i64 1, .int .i64 2, 1⟩, ⟨.int .i64 2, .int .i64 1, 2⟩] 3)) = .ok () (w2.alloc (.map #[⟨.int .i64 0, .int .i64 0, 0⟩, ⟨.int .i64 1, .int .i64 2, 1⟩, ⟨.int .i64 2, .int .i64 1, 2⟩, ⟨.int .i64 3, .int .i64 3, 3⟩] 4)) := upd_new Try.underlying43 Try.underlying3 _ _ _ _ _ rfl
        have c1 := Box.oldm e1 (.map #[⟨.int .i64 0, .int .i64 0, 0⟩, ⟨.int .i64 1, .int .i64 2, 1⟩, ⟨.int .i64 2, .int .i64 1, 2⟩, ⟨.int .i64 3, .int .i64 3, 3⟩] 4)
        have c2 := Box.oldm e2 (.map #[⟨.int .i64 0, .int .i64 0, 0⟩, ⟨.int .i64 1, .int .i64 2, 1⟩, ⟨.int .i64 2, .int .i64 1, 2⟩, ⟨.int .i64 3, .int .i64 3, 3⟩] 4)
        have F1 : ∀ w', Bel (w2.alloc (.map #[⟨.int .i64 0, .int .i64 0, 0⟩, ⟨.int .i64 1, .int .i64 2, 1⟩, ⟨.int .i64 2, .int .i64 1, 2⟩, ⟨.int .i64 3, .int .i64 3, 3⟩] 4)) w' → (Instr.lookup 43 (.map (some w2.heap.size)) (.int .i64 2) false).run Try.prog w' = .ok (.int .i64 1) w' := fun w' h =>
          look_in Try.underlying43 Try.underlying3 _ _ _ _ _ _ _ ((h.block _ (by simp)).trans (heap_alloc_new w2 _)) rfl
        have HU := Lib.hid hw2
        clear hw2 e1 e2
        go_wp2_with (first | (refine list_bel 17 rfl ?_; (repeat (first | (refine BigFrame.wpQuiet_skip rfl ?_; simp only [Act.put, Act.eval, List.setIfInBounds_toArray, List.set_cons_zero, List.set_cons_succ, Array.getD_eq_getD_getElem?, List.getElem?_toArray, List.getElem?_cons_zero, List.getElem?_cons_succ, Option.getD_some]) | (refine q_move _ rfl rfl ?_; simp only [Act.put, Act.eval, List.setIfInBounds_toArray, List.set_cons_zero, List.set_cons_succ, Array.getD_eq_getD_getElem?, List.getElem?_toArray, List.getElem?_cons_zero, List.getElem?_cons_succ, Option.getD_some]) | (refine q_assign _ rfl rfl ?_; simp only [Act.put, Act.eval, List.setIfInBounds_toArray, List.set_cons_zero, List.set_cons_succ, Array.getD_eq_getD_getElem?, List.getElem?_toArray, List.getElem?_cons_zero, List.getElem?_cons_succ, Option.getD_some]) | (refine q_load _ _ rfl rfl rfl c1 ty28 ?_; simp only [Act.put, Act.eval, List.setIfInBounds_toArray, List.set_cons_zero, List.set_cons_succ, Array.getD_eq_getD_getElem?, List.getElem?_toArray, List.getElem?_cons_zero, List.getElem?_cons_succ, Option.getD_some]) | (refine q_load _ _ rfl rfl rfl c2 ty28 ?_; simp only [Act.put, Act.eval, List.setIfInBounds_toArray, List.set_cons_zero, List.set_cons_succ, Array.getD_eq_getD_getElem?, List.getElem?_toArray, List.getElem?_cons_zero, List.getElem?_cons_succ, Option.getD_some]) | (refine q_any rfl ?_; apply Exists.intro; refine ⟨fun w hw => ?_, ?_⟩; (have fct0 := F1 w hw; go_simp; first | exact ⟨rfl, rfl⟩ | rfl | (go_at_call 27; (with_reducible refine (clocked_any _).mono ?_); rintro e w' ⟨rfl, hb⟩; exact ⟨rfl, hw.call hb⟩)); simp only [Act.put, Act.eval, List.setIfInBounds_toArray, List.set_cons_zero, List.set_cons_succ, Array.getD_eq_getD_getElem?, List.getElem?_toArray, List.getElem?_cons_zero, List.getElem?_cons_succ, Option.getD_some]))); refine wpQuiet_nil ?_; intro w2 hw2))
        go_ret
        exact ⟨rfl, HB.out.trans (((HU.out.alloc _).trans (by assumption)).out.mono HL.out)⟩
    · have h2 : within b a = false := by
        cases h2 : within b a
        · rfl
        · rw [eqc_of_within h1 h2] at h0; cases h0
      have HX : ∀ w, Calls Try.prog 18 #[.agg (clk a), .agg (clk b)] w fun e w' => e = .returned (.int .i64 1) ∧ Below w.heap.size w w' := fun w => by
        have := compare_any a b w
        rwa [show cmp a b = 1 by simp [cmp, *]] at this
      have HY : ∀ w, Calls Try.prog 18 #[.agg (clk b), .agg (clk a)] w fun e w' => e = .returned (.int .i64 2) ∧ Below w.heap.size w w' := fun w => by
        have := compare_any b a w
        rwa [show cmp b a = 2 by simp [cmp, *]] at this
      have HX' := Lib.hid HX
      have HY' := Lib.hid HY
      clear HX HY
      go_enter Try.func10, Try.ntmps10
      go_wp2_with fail
      (refine region_bel (by kernel_rfl) (by kernel_rfl) ?_; (repeat (first | (refine BigFrame.wpQuiet_skip rfl ?_; simp only [Act.put, Act.eval, List.setIfInBounds_toArray, List.set_cons_zero, List.set_cons_succ, Array.getD_eq_getD_getElem?, List.getElem?_toArray, List.getElem?_cons_zero, List.getElem?_cons_succ, Option.getD_some]) | (refine q_move _ rfl rfl ?_; simp only [Act.put, Act.eval, List.setIfInBounds_toArray, List.set_cons_zero, List.set_cons_succ, Array.getD_eq_getD_getElem?, List.getElem?_toArray, List.getElem?_cons_zero, List.getElem?_cons_succ, Option.getD_some]) | (refine q_assign _ rfl rfl ?_; simp only [Act.put, Act.eval, List.setIfInBounds_toArray, List.set_cons_zero, List.set_cons_succ, Array.getD_eq_getD_getElem?, List.getElem?_toArray, List.getElem?_cons_zero, List.getElem?_cons_succ, Option.getD_some]) | (refine q_load _ _ rfl rfl rfl b1 ty28 ?_; simp only [Act.put, Act.eval, List.setIfInBounds_toArray, List.set_cons_zero, List.set_cons_succ, Array.getD_eq_getD_getElem?, List.getElem?_toArray, List.getElem?_cons_zero, List.getElem?_cons_succ, Option.getD_some]) | (refine q_load _ _ rfl rfl rfl b2 ty28 ?_; simp only [Act.put, Act.eval, List.setIfInBounds_toArray, List.set_cons_zero, List.set_cons_succ, Array.getD_eq_getD_getElem?, List.getElem?_toArray, List.getElem?_cons_zero, List.getElem?_cons_succ, Option.getD_some]) | (refine q_any rfl ?_; apply Exists.intro; refine ⟨fun w hw => ?_, ?_⟩; (go_simp; first | exact ⟨rfl, rfl⟩ | rfl | (go_at_call 18; (with_reducible refine (HX'.out _).mono ?_); rintro e w' ⟨rfl, hb⟩; exact ⟨rfl, hw.call hb⟩) | (go_at_call 18; (with_reducible refine (HY'.out _).mono ?_); rintro e w' ⟨rfl, hb⟩; exact ⟨rfl, hw.call hb⟩)); simp only [Act.put, Act.eval, List.setIfInBounds_toArray, List.set_cons_zero, List.set_cons_succ, Array.getD_eq_getD_getElem?, List.getElem?_toArray, List.getElem?_cons_zero, List.getElem?_cons_succ, Option.getD_some]))); refine wpQuiet_nil ?_; intro w2 hw2)
      have e1 := hw2.box b1
      have e2 := hw2.box b2
      have hmm := @run_makeMap Try.prog
      have U0 : (Instr.mapUpdate 43 (.map (some w2.heap.size)) (.int .i64 0) (.int .i64 0)).run Try.prog (w2.alloc (.map #[] 0)) = .ok () (w2.alloc (.map #[⟨.int .i64 0, .int .i64 0, 0⟩] 1)) := upd_new Try.underlying43 Try.underlying3 _ _ _ _ _ rfl
      have U1 : (Instr.mapUpdate 43 (.map (some w2.heap.size)) (.int .i64 1) (.int .i64 2)).run Try.prog (w2.alloc (.map #[⟨.int .i64 0, .int .i64 0, 0⟩] 1)) = .ok () (w2.alloc (.map #[⟨.int .i64 0, .int .i64 0, 0⟩, ⟨.int .i64 1, .int .i64 2, 1⟩] 2)) := upd_new Try.underlying43 Try.underlying3 _ _ _ _ _ rfl
      have U2 : (Instr.mapUpdate 43 (.map (some w2.heap.size)) (.int .i64 2) (.int .i64 1)).run Try.prog (w2.alloc (.map #[⟨.int .i64 0, .int .i64 0, 0⟩, ⟨.int .i64 1, .int .i64 2, 1⟩] 2)) = .ok () (w2.alloc (.map #[⟨.int .i64 0, .int .i64 0, 0⟩, ⟨.int .i64 1, .int .i64 2, 1⟩, ⟨.int .i64 2, .int .i64 1, 2⟩] 3)) := upd_new Try.underlying43 Try.underlying3 _ _ _ _ _ rfl
      have U3 : (Instr.mapUpdate 43 (.map (some w2.heap.size)) (.int .i64 3) (.int .i64 3)).run Try.prog (w2.alloc (.map #[⟨.int .i64 0, .int .i64 0, 0⟩, ⟨.int .i64 1, .int .i64 2, 1⟩, ⟨.int .i64 2, .int .i64 1, 2⟩] 3)) = .ok () (w2.alloc (.map #[⟨.int .i64 0, .int .i64 0, 0⟩, ⟨.int .i64 1, .int .i64 2, 1⟩, ⟨.int .i64 2, .int .i64 1, 2⟩, ⟨.int .i64 3, .int .i64 3, 3⟩] 4)) := upd_new Try.underlying43 Try.underlying3 _ _ _ _ _ rfl
      have c1 := Box.oldm e1 (.map #[⟨.int .i64 0, .int .i64 0, 0⟩, ⟨.int .i64 1, .int .i64 2, 1⟩, ⟨.int .i64 2, .int .i64 1, 2⟩, ⟨.int .i64 3, .int .i64 3, 3⟩] 4)
      have c2 := Box.oldm e2 (.map #[⟨.int .i64 0, .int .i64 0, 0⟩, ⟨.int .i64 1, .int .i64 2, 1⟩, ⟨.int .i64 2, .int .i64 1, 2⟩, ⟨.int .i64 3, .int .i64 3, 3⟩] 4)
      have F1 : ∀ w', Bel (w2.alloc (.map #[⟨.int .i64 0, .int .i64 0, 0⟩, ⟨.int .i64 1, .int .i64 2, 1⟩, ⟨.int .i64 2, .int .i64 1, 2⟩, ⟨.int .i64 3, .int .i64 3, 3⟩] 4)) w' → (Instr.lookup 43 (.map (some w2.heap.size)) (.int .i64 1) false).run Try.prog w' = .ok (.int .i64 2) w' := fun w' h =>
        look_in Try.underlying43 Try.underlying3 _ _ _ _ _ _ _ ((h.block _ (by simp)).trans (heap_alloc_new w2 _)) rfl
      have HU := Lib.hid hw2
      clear hw2 e1 e2
      go_wp2_with (first | (refine list_bel 17 rfl ?_; (repeat (first | (refine BigFrame.wpQuiet_skip rfl ?_; simp only [Act.put, Act.eval, List.setIfInBounds_toArray, List.set_cons_zero, List.set_cons_succ, Array.getD_eq_getD_getElem?, List.getElem?_toArray, List.getElem?_cons_zero, List.getElem?_cons_succ, Option.getD_some]) | (refine q_move _ rfl rfl ?_; simp only [Act.put, Act.eval, List.setIfInBounds_toArray, List.set_cons_zero, List.set_cons_succ, Array.getD_eq_getD_getElem?, List.getElem?_toArray, List.getElem?_cons_zero, List.getElem?_cons_succ, Option.getD_some]) | (refine q_assign _ rfl rfl ?_; simp only [Act.put, Act.eval, List.setIfInBounds_toArray, List.set_cons_zero, List.set_cons_succ, Array.getD_eq_getD_getElem?, List.getElem?_toArray, List.getElem?_cons_zero, List.getElem?_cons_succ, Option.getD_some]) | (refine q_load _ _ rfl rfl rfl c1 ty28 ?_; simp only [Act.put, Act.eval, List.setIfInBounds_toArray, List.set_cons_zero, List.set_cons_succ, Array.getD_eq_getD_getElem?, List.getElem?_toArray, List.getElem?_cons_zero, List.getElem?_cons_succ, Option.getD_some]) | (refine q_load _ _ rfl rfl rfl c2 ty28 ?_; simp only [Act.put, Act.eval, List.setIfInBounds_toArray, List.set_cons_zero, List.set_cons_succ, Array.getD_eq_getD_getElem?, List.getElem?_toArray, List.getElem?_cons_zero, List.getElem?_cons_succ, Option.getD_some]) | (refine q_any rfl ?_; apply Exists.intro; refine ⟨fun w hw => ?_, ?_⟩; (have fct0 := F1 w hw; go_simp; first | exact ⟨rfl, rfl⟩ | rfl | (go_at_call 27; (with_reducible refine (clocked_any _).mono ?_); rintro e w' ⟨rfl, hb⟩; exact ⟨rfl, hw.call hb⟩)); simp only [Act.put, Act.eval, List.setIfInBounds_toArray, List.set_cons_zero, List.set_cons_succ, Array.getD_eq_getD_getElem?, List.getElem?_toArray, List.getElem?_cons_zero, List.getElem?_cons_succ, Option.getD_some]))); refine wpQuiet_nil ?_; intro w2 hw2))
      go_ret
      exact ⟨rfl, HB.out.trans (((HU.out.alloc _).trans (by assumption)).out.mono HL.out)⟩
  · have HX : ∀ w, Calls Try.prog 18 #[.agg (clk a), .agg (clk b)] w fun e w' => e = .returned (.int .i64 0) ∧ Below w.heap.size w w' := fun w => by
      have := compare_any a b w
      rwa [show cmp a b = 0 by simp [cmp, *]] at this
    have HY : ∀ w, Calls Try.prog 18 #[.agg (clk b), .agg (clk a)] w fun e w' => e = .returned (.int .i64 0) ∧ Below w.heap.size w w' := fun w => by
      have := compare_any b a w
      rwa [show cmp b a = 0 by simp [cmp, *]] at this
    have HX' := Lib.hid HX
    have HY' := Lib.hid HY
    clear HX HY
    go_enter Try.func10, Try.ntmps10
    go_wp2_with fail
    (refine region_bel (by kernel_rfl) (by kernel_rfl) ?_; (repeat (first | (refine BigFrame.wpQuiet_skip rfl ?_; simp only [Act.put, Act.eval, List.setIfInBounds_toArray, List.set_cons_zero, List.set_cons_succ, Array.getD_eq_getD_getElem?, List.getElem?_toArray, List.getElem?_cons_zero, List.getElem?_cons_succ, Option.getD_some]) | (refine q_move _ rfl rfl ?_; simp only [Act.put, Act.eval, List.setIfInBounds_toArray, List.set_cons_zero, List.set_cons_succ, Array.getD_eq_getD_getElem?, List.getElem?_toArray, List.getElem?_cons_zero, List.getElem?_cons_succ, Option.getD_some]) | (refine q_assign _ rfl rfl ?_; simp only [Act.put, Act.eval, List.setIfInBounds_toArray, List.set_cons_zero, List.set_cons_succ, Array.getD_eq_getD_getElem?, List.getElem?_toArray, List.getElem?_cons_zero, List.getElem?_cons_succ, Option.getD_some]) | (refine q_load _ _ rfl rfl rfl b1 ty28 ?_; simp only [Act.put, Act.eval, List.setIfInBounds_toArray, List.set_cons_zero, List.set_cons_succ, Array.getD_eq_getD_getElem?, List.getElem?_toArray, List.getElem?_cons_zero, List.getElem?_cons_succ, Option.getD_some]) | (refine q_load _ _ rfl rfl rfl b2 ty28 ?_; simp only [Act.put, Act.eval, List.setIfInBounds_toArray, List.set_cons_zero, List.set_cons_succ, Array.getD_eq_getD_getElem?, List.getElem?_toArray, List.getElem?_cons_zero, List.getElem?_cons_succ, Option.getD_some]) | (refine q_any rfl ?_; apply Exists.intro; refine ⟨fun w hw => ?_, ?_⟩; (go_simp; first | exact ⟨rfl, rfl⟩ | rfl | (go_at_call 18; (with_reducible refine (HX'.out _).mono ?_); rintro e w' ⟨rfl, hb⟩; exact ⟨rfl, hw.call hb⟩) | (go_at_call 18; (with_reducible refine (HY'.out _).mono ?_); rintro e w' ⟨rfl, hb⟩; exact ⟨rfl, hw.call hb⟩)); simp only [Act.put, Act.eval, List.setIfInBounds_toArray, List.set_cons_zero, List.set_cons_succ, Array.getD_eq_getD_getElem?, List.getElem?_toArray, List.getElem?_cons_zero, List.getElem?_cons_succ, Option.getD_some]))); refine wpQuiet_nil ?_; intro w2 hw2)
    have e1 := hw2.box b1
    have e2 := hw2.box b2
    have hmm := @run_makeMap Try.prog
    have U0 : (Instr.mapUpdate 43 (.map (some w2.heap.size)) (.int .i64 0) (.int .i64 0)).run Try.prog (w2.alloc (.map #[] 0)) = .ok () (w2.alloc (.map #[⟨.int .i64 0, .int .i64 0, 0⟩] 1)) := upd_new Try.underlying43 Try.underlying3 _ _ _ _ _ rfl
    have U1 : (Instr.mapUpdate 43 (.map (some w2.heap.size)) (.int .i64 1) (.int .i64 2)).run Try.prog (w2.alloc (.map #[⟨.int .i64 0, .int .i64 0, 0⟩] 1)) = .ok () (w2.alloc (.map #[⟨.int .i64 0, .int .i64 0, 0⟩, ⟨.int .i64 1, .int .i64 2, 1⟩] 2)) := upd_new Try.underlying43 Try.underlying3 _ _ _ _ _ rfl
    have U2 : (Instr.mapUpdate 43 (.map (some w2.heap.size)) (.int .i64 2) (.int .i64 1)).run Try.prog (w2.alloc (.map #[⟨.int .i64 0, .int .i64 0, 0⟩, ⟨.int .i64 1, .int .i64 2, 1⟩] 2)) = .ok () (w2.alloc (.map #[⟨.int .i64 0, .int .i64 0, 0⟩, ⟨.int .i64 1, .int .i64 2, 1⟩, ⟨.int .i64 2, .int .i64 1, 2⟩] 3)) := upd_new Try.underlying43 Try.underlying3 _ _ _ _ _ rfl
    have U3 : (Instr.mapUpdate 43 (.map (some w2.heap.size)) (.int .i64 3) (.int .i64 3)).run Try.prog (w2.alloc (.map #[⟨.int .i64 0, .int .i64 0, 0⟩, ⟨.int .i64 1, .int .i64 2, 1⟩, ⟨.int .i64 2, .int .i64 1, 2⟩] 3)) = .ok () (w2.alloc (.map #[⟨.int .i64 0, .int .i64 0, 0⟩, ⟨.int .i64 1, .int .i64 2, 1⟩, ⟨.int .i64 2, .int .i64 1, 2⟩, ⟨.int .i64 3, .int .i64 3, 3⟩] 4)) := upd_new Try.underlying43 Try.underlying3 _ _ _ _ _ rfl
    have c1 := Box.oldm e1 (.map #[⟨.int .i64 0, .int .i64 0, 0⟩, ⟨.int .i64 1, .int .i64 2, 1⟩, ⟨.int .i64 2, .int .i64 1, 2⟩, ⟨.int .i64 3, .int .i64 3, 3⟩] 4)
    have c2 := Box.oldm e2 (.map #[⟨.int .i64 0, .int .i64 0, 0⟩, ⟨.int .i64 1, .int .i64 2, 1⟩, ⟨.int .i64 2, .int .i64 1, 2⟩, ⟨.int .i64 3, .int .i64 3, 3⟩] 4)
    have F1 : ∀ w', Bel (w2.alloc (.map #[⟨.int .i64 0, .int .i64 0, 0⟩, ⟨.int .i64 1, .int .i64 2, 1⟩, ⟨.int .i64 2, .int .i64 1, 2⟩, ⟨.int .i64 3, .int .i64 3, 3⟩] 4)) w' → (Instr.lookup 43 (.map (some w2.heap.size)) (.int .i64 0) false).run Try.prog w' = .ok (.int .i64 0) w' := fun w' h =>
      look_in Try.underlying43 Try.underlying3 _ _ _ _ _ _ _ ((h.block _ (by simp)).trans (heap_alloc_new w2 _)) rfl
    have HU := Lib.hid hw2
    clear hw2 e1 e2
    go_wp2_with (first | (refine list_bel 17 rfl ?_; (repeat (first | (refine BigFrame.wpQuiet_skip rfl ?_; simp only [Act.put, Act.eval, List.setIfInBounds_toArray, List.set_cons_zero, List.set_cons_succ, Array.getD_eq_getD_getElem?, List.getElem?_toArray, List.getElem?_cons_zero, List.getElem?_cons_succ, Option.getD_some]) | (refine q_move _ rfl rfl ?_; simp only [Act.put, Act.eval, List.setIfInBounds_toArray, List.set_cons_zero, List.set_cons_succ, Array.getD_eq_getD_getElem?, List.getElem?_toArray, List.getElem?_cons_zero, List.getElem?_cons_succ, Option.getD_some]) | (refine q_assign _ rfl rfl ?_; simp only [Act.put, Act.eval, List.setIfInBounds_toArray, List.set_cons_zero, List.set_cons_succ, Array.getD_eq_getD_getElem?, List.getElem?_toArray, List.getElem?_cons_zero, List.getElem?_cons_succ, Option.getD_some]) | (refine q_load _ _ rfl rfl rfl c1 ty28 ?_; simp only [Act.put, Act.eval, List.setIfInBounds_toArray, List.set_cons_zero, List.set_cons_succ, Array.getD_eq_getD_getElem?, List.getElem?_toArray, List.getElem?_cons_zero, List.getElem?_cons_succ, Option.getD_some]) | (refine q_load _ _ rfl rfl rfl c2 ty28 ?_; simp only [Act.put, Act.eval, List.setIfInBounds_toArray, List.set_cons_zero, List.set_cons_succ, Array.getD_eq_getD_getElem?, List.getElem?_toArray, List.getElem?_cons_zero, List.getElem?_cons_succ, Option.getD_some]) | (refine q_any rfl ?_; apply Exists.intro; refine ⟨fun w hw => ?_, ?_⟩; (have fct0 := F1 w hw; go_simp; first | exact ⟨rfl, rfl⟩ | rfl | (go_at_call 27; (with_reducible refine (clocked_any _).mono ?_); rintro e w' ⟨rfl, hb⟩; exact ⟨rfl, hw.call hb⟩)); simp only [Act.put, Act.eval, List.setIfInBounds_toArray, List.set_cons_zero, List.set_cons_succ, Array.getD_eq_getD_getElem?, List.getElem?_toArray, List.getElem?_cons_zero, List.getElem?_cons_succ, Option.getD_some]))); refine wpQuiet_nil ?_; intro w2 hw2))
    go_ret
    exact ⟨rfl, HB.out.trans (((HU.out.alloc _).trans (by assumption)).out.mono HL.out)⟩

set_option maxRecDepth 100000 in
theorem lifted (os : Os) (started : os.Started) (H : Type) (enc : TypeId × Value → H) :
    ReturnsInHanded {} Try.checked os 10 .any (Rows.clockSidesSpec.pre6 enc Try.prog Try.f10 Rows.clockSidesRow.domain false) (Rows.clockSidesSpec.post enc Try.prog Try.f10 false true false false) := by
  refine returnsInHanded_of_change (C := Try.checked) own started (by kernel_rfl) Try.func10
    (ChangeSpec.witness6 (enc := enc) (C := Try.checked) false ⟨#[], #[.agg #[.int .i64 0, .int .i64 0, .int .i64 0, .int .i64 0, .int .i64 0, .int .i64 0], .agg #[.int .i64 0, .int .i64 0, .int .i64 0, .int .i64 0, .int .i64 0, .int .i64 0]], []⟩ 8 (by kernel_rfl) (by kernel_rfl) (by kernel_rfl) (by kernel_rfl)) ?_
  intro W base args ds gs before hval0 hW hcnd _
  have hval : ∀ (j : Nat) t v, Try.f10.params[j]? = some t → args[j]? = some v → Value.okWide Try.prog W .any base t v := hval0
  have hW' := hW
  obtain ⟨p, q, hA0, hV, rfl, hfz, hnd⟩ := hW
  have hA : DataW.TrodAll enc Try.prog W 0 (fun _ => true) true Try.f10.params.toList args.toList ds p := hA0
  rw [Try.params10] at hA hval
  obtain ⟨v0, vs0, d0, ds0, p0, q0, hargs, rfl, rfl, h0, r0⟩ := trodAll_cons hA
  obtain ⟨v1, vs1, d1, ds1, p1, q1, rfl, rfl, rfl, h1, r1⟩ := trodAll_cons r0
  obtain ⟨rfl, rfl, rfl⟩ := trodAll_nil r1
  obtain rfl : args = #[v0, v1] := by cases args; simp_all
  obtain ⟨rfl, rfl⟩ := trodVars_none hV
  have t0 := h0
  have lt0 : ∀ x ∈ p0, x.block < W.heap.size := by obtain ⟨m, hm⟩ := t0; exact DataW.trod_lt m _ _ _ hm
  have t1 := h1
  have lt1 : ∀ x ∈ p1, x.block < W.heap.size := by obtain ⟨m, hm⟩ := t1; exact DataW.trod_lt m _ _ _ hm
  obtain ⟨a0, rfl, k0⟩ := open_clk Try.underlying28 Try.underlying3 (by kernel_rfl) (by kernel_rfl) (hval 0 28 v0 rfl rfl) h0
  obtain ⟨a1, rfl, k1⟩ := open_clk Try.underlying28 Try.underlying3 (by kernel_rfl) (by kernel_rfl) (hval 1 28 v1 rfl rfl) h1
  clear hA0 hval0
  refine (walk a0 k0 a1 k1 W).mono fun e W' ⟨he, bel⟩ => ?_
  subst he
  exact ⟨_, rfl, _, _, _, [], _, [], hW', trodAll_mk1 (shut_bool Try.underlying4 _), (trodAll_cons_mk (Below.trod laidOut (by kernel_rfl) (of_decide_eq_true (by kernel_rfl)) t0 bel lt0) (trodAll_cons_mk (Below.trod laidOut (by kernel_rfl) (of_decide_eq_true (by kernel_rfl)) t1 bel lt1) trodAll_mk0)), rfl, bel.frame _, fun h => by cases h⟩

theorem over : Rows.clockSidesRow.holds Try.pinned (OpenSpec.ofChange Rows.clockSidesSpec) :=
  OpenClaim.holds_of_wide 10 Try.f10 rfl rfl rfl rfl rfl rfl rfl ⟨rfl, rfl, rfl, rfl, rfl⟩ rfl rfl rfl rfl rfl (by kernel_rfl) Try.func10 (by kernel_rfl)
    (of_decide_eq_true (by kernel_rfl)) (by unfold Func.isWrapper; first | (rw [if_pos (by decide +kernel)]; kernel_rfl) | (rw [if_neg (by decide +kernel)]; exact ⟨rfl, rfl⟩))
    (fun os started H enc _ => lifted os started H enc)

theorem proved : Rows.ClockSidesSaid := over
#print axioms proved
end Go.Proofs.Ytcndebndmibdmaa.LClockSides
