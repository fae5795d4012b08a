/- 'deadheatlaw.ClockEpochs' returns true for every input and leaves its arguments as they are. No condition. -/
import Derived.Test.YtcndebndmibdmaaOpen
import Derived.Test.YtcndebndmibdmaaRefClock
set_option linter.all false
namespace Go.Proofs.Ytcndebndmibdmaa.LClockEpochs
open Go Go.ChangeShapes Go.WideShapes Go.ChangeAt Go.RowKit
set_option linter.unusedVariables false

set_option maxHeartbeats 1000000 in
theorem walk (c : Nat → Int) (kc : ClkOk c) (t : Int) (kt : In64 t) (th n : Int) (w : World) :
    Calls Try.prog 7 #[.agg (clk c), .int .i64 t, .agg (ep th n)] w fun e w' => e = .returned (.bool true) ∧ Below w.heap.size w w' := by
  obtain ⟨b1, b2, hB, hs⟩ := boxes2 w (clk c) (ep th n) 28 37
  generalize hW : ((w.alloc (.cells (clk c) 28)).alloc (.cells (ep th n) 37)) = W at *
  have HB := Lib.hid hB
  have HL := Lib.hid (show w.heap.size ≤ W.heap.size by omega)
  have HZ : ∀ w, Calls Try.prog 25 #[.agg #[.int .i64 0, .int .i64 1], .agg #[.int .i64 1, .int .i64 0, .int .i64 0, .int .i64 0, .int .i64 0, .int .i64 0]] w fun e w' => e = .returned (.bool true) ∧ Below w.heap.size w w' := fun w => seen_any 0 1 (cf 1 0 0 0 0 0) w
  have HZ' := Lib.hid HZ
  have G1 : ∀ a b w, (binOp .eql 37 (.agg (ep a b)) (.agg (ep a b))).run Try.prog w = .ok (.bool true) w := by
    intro a b w
    unfold ep
    simp [go_sem]
  have G2 : Try.prog.eqGuardType Try.prog.depth 37 = false := by kernel_rfl
  clear hB hs HZ kc kt
  by_cases ht : isT t = true
  · obtain ⟨h0, h6⟩ := isT_iff.1 ht
    obtain ⟨k, rfl⟩ := Int.eq_ofNat_of_zero_le h0
    have hk : k < 6 := by omega
    have HO : ∀ w, Calls Try.prog 24 #[.agg (clk c), .int .i64 k] w fun e w' => e = .returned (.tuple #[.agg (ep k (c k)), .int .i64 0]) ∧ Below w.heap.size w w' := fun w => by
      have := of_any c k w
      have e1 : ofT k = (k : Int) ∧ ofN c k = c k ∧ ofE k = 0 := by simp [ofT, ofN, ofE, ht]
      rwa [e1.1, e1.2.1, e1.2.2] at this
    have HO' := Lib.hid HO
    clear HO
    go_enter Try.func7, Try.ntmps7
    go_wp2_with (first | (refine loadB _ _ rfl rfl rfl b1 ty28 ?_))
    refine (HO'.out _).mono ?_
    rintro e w1 ⟨rfl, hb1⟩
    have c1 : Bel W w1 := Below.trans (Below.refl _ _) hb1
    have e1 := c1.box b1
    have G3 : ∀ w, (binOp .eql 37 (.agg (ep k (c k))) (.agg #[.int .i64 k, .int .i64 (c k)])).run Try.prog w = .ok (.bool true) w := G1 k (c k)
    have g1 := ((e1.old (.cells (ep k (c k)) 37)).old (.cells #[.int .i64 0, .int .i64 0] 37)).cell k (clk_get c k hk)
    obtain ⟨d1, d2, hD, hd⟩ := boxes2 w1 (ep k (c k)) #[.int .i64 k, .int .i64 (c k)] 37 37
    have hD' : Bel W ((w1.alloc (.cells (ep k (c k)) 37)).alloc (.cells #[.int .i64 k, .int .i64 (c k)] 37)) := c1.trans hD
    have f1 := hD'.box b1
    have f2 := hD'.box b2
    have HD := Lib.hid hD'
    have hsz : w1.heap.size + 1 = (w1.alloc (.cells (ep k (c k)) 37)).heap.size := by simp
    have HSZ := Lib.hid hsz
    clear hD hd hD' hsz
    go_wp2_with (first | (refine storeNew (c' := (ep k (c k))) _ _ _ rfl rfl rfl rfl rfl ty37 (ep_all _ _) ?_) | (refine storeNew (c' := #[.int .i64 0, .int .i64 0]) _ _ _ rfl rfl rfl rfl rfl ty37 (ep_all 0 0) ?_) | (refine storeNew (w := w1.alloc (.cells (ep k (c k)) 37)) (c' := #[.int .i64 k, .int .i64 (c k)]) _ _ _ rfl rfl (by rfl) (by rfl) rfl ty37 (ep_all _ _) ?_))
    (refine region_bel (by kernel_rfl) (by kernel_rfl) ?_; (repeat (first | (refine BigFrame.wpQuiet_skip rfl ?_; simp only [Act.put, Act.eval, List.setIfInBounds_toArray, List.set_cons_zero, List.set_cons_succ, Array.getD_eq_getD_getElem?, List.getElem?_toArray, List.getElem?_cons_zero, List.getElem?_cons_succ, Option.getD_some]) | (refine q_move _ rfl rfl ?_; simp only [Act.put, Act.eval, List.setIfInBounds_toArray, List.set_cons_zero, List.set_cons_succ, Array.getD_eq_getD_getElem?, List.getElem?_toArray, List.getElem?_cons_zero, List.getElem?_cons_succ, Option.getD_some]) | (refine q_assign _ rfl rfl ?_; simp only [Act.put, Act.eval, List.setIfInBounds_toArray, List.set_cons_zero, List.set_cons_succ, Array.getD_eq_getD_getElem?, List.getElem?_toArray, List.getElem?_cons_zero, List.getElem?_cons_succ, Option.getD_some]) | (refine q_load _ _ rfl rfl rfl f1 ty28 ?_; simp only [Act.put, Act.eval, List.setIfInBounds_toArray, List.set_cons_zero, List.set_cons_succ, Array.getD_eq_getD_getElem?, List.getElem?_toArray, List.getElem?_cons_zero, List.getElem?_cons_succ, Option.getD_some]) | (refine q_load _ _ rfl rfl rfl f2 ty37 ?_; simp only [Act.put, Act.eval, List.setIfInBounds_toArray, List.set_cons_zero, List.set_cons_succ, Array.getD_eq_getD_getElem?, List.getElem?_toArray, List.getElem?_cons_zero, List.getElem?_cons_succ, Option.getD_some]) | (refine q_load _ _ rfl rfl rfl d1 ty37 ?_; simp only [Act.put, Act.eval, List.setIfInBounds_toArray, List.set_cons_zero, List.set_cons_succ, Array.getD_eq_getD_getElem?, List.getElem?_toArray, List.getElem?_cons_zero, List.getElem?_cons_succ, Option.getD_some]) | (refine q_load _ _ rfl rfl rfl d2 ty37 ?_; simp only [Act.put, Act.eval, List.setIfInBounds_toArray, List.set_cons_zero, List.set_cons_succ, Array.getD_eq_getD_getElem?, List.getElem?_toArray, List.getElem?_cons_zero, List.getElem?_cons_succ, Option.getD_some]) | (refine q_any rfl ?_; apply Exists.intro; refine ⟨fun w hw => ?_, ?_⟩; (go_simp; first | exact ⟨rfl, rfl⟩ | rfl | (go_at_call 25; (with_reducible refine (seen_any th n c _).mono ?_); rintro e w' ⟨rfl, hb⟩; exact ⟨rfl, hw.call hb⟩) | (go_at_call 25; (with_reducible refine (HZ'.out _).mono ?_); rintro e w' ⟨rfl, hb⟩; exact ⟨rfl, hw.call hb⟩) | (go_at_call 26; (with_reducible refine (rseen_any _ _ _ _).mono ?_); rintro e w' ⟨rfl, hb⟩; exact ⟨rfl, hw.call hb⟩)); simp only [Act.put, Act.eval, List.setIfInBounds_toArray, List.set_cons_zero, List.set_cons_succ, Array.getD_eq_getD_getElem?, List.getElem?_toArray, List.getElem?_cons_zero, List.getElem?_cons_succ, Option.getD_some]))); refine wpQuiet_nil ?_; intro w2 hw2)
    go_wp2
    go_ret
    exact ⟨rfl, HB.out.trans ((HD.out.trans hw2).out.mono HL.out)⟩
  · have h06 : ¬ (0 ≤ t ∧ t < 6) := fun h => ht (isT_iff.2 h)
    by_cases h0 : 0 ≤ t
    · have h6 : ¬ t < 6 := fun h => h06 ⟨h0, h⟩
      have HO : ∀ w, Calls Try.prog 24 #[.agg (clk c), .int .i64 t] w fun e w' => e = .returned (.tuple #[.agg (ep 0 0), .int .i64 1]) ∧ Below w.heap.size w w' := fun w => by
        have := of_any c t w
        have e1 : ofT t = 0 ∧ ofN c t = 0 ∧ ofE t = 1 := by simp [ofT, ofN, ofE, ht]
        rwa [e1.1, e1.2.1, e1.2.2] at this
      have HO' := Lib.hid HO
      clear HO
      go_enter Try.func7, Try.ntmps7
      go_wp2_with (first | (refine loadB _ _ rfl rfl rfl b1 ty28 ?_))
      refine (HO'.out _).mono ?_
      rintro e w1 ⟨rfl, hb1⟩
      have c1 : Bel W w1 := Below.trans (Below.refl _ _) hb1
      have e1 := c1.box b1
      obtain ⟨d1, d2, hD, hd⟩ := boxes2 w1 (ep 0 0) #[.int .i64 0, .int .i64 0] 37 37
      have hD' : Bel W ((w1.alloc (.cells (ep 0 0) 37)).alloc (.cells #[.int .i64 0, .int .i64 0] 37)) := c1.trans hD
      have f1 := hD'.box b1
      have f2 := hD'.box b2
      have HD := Lib.hid hD'
      have hsz : w1.heap.size + 1 = (w1.alloc (.cells (ep 0 0) 37)).heap.size := by simp
      have HSZ := Lib.hid hsz
      clear hD hd hD' hsz
      go_wp2_with (first | (refine storeNew (c' := (ep 0 0)) _ _ _ rfl rfl rfl rfl rfl ty37 (ep_all _ _) ?_) | (refine storeNew (c' := #[.int .i64 0, .int .i64 0]) _ _ _ rfl rfl rfl rfl rfl ty37 (ep_all 0 0) ?_) | (refine storeNew (w := w1.alloc (.cells (ep 0 0) 37)) (c' := #[.int .i64 0, .int .i64 0]) _ _ _ rfl rfl (by rfl) (by rfl) rfl ty37 (ep_all _ _) ?_))
      (refine region_bel (by kernel_rfl) (by kernel_rfl) ?_; (repeat (first | (refine BigFrame.wpQuiet_skip rfl ?_; simp only [Act.put, Act.eval, List.setIfInBounds_toArray, List.set_cons_zero, List.set_cons_succ, Array.getD_eq_getD_getElem?, List.getElem?_toArray, List.getElem?_cons_zero, List.getElem?_cons_succ, Option.getD_some]) | (refine q_move _ rfl rfl ?_; simp only [Act.put, Act.eval, List.setIfInBounds_toArray, List.set_cons_zero, List.set_cons_succ, Array.getD_eq_getD_getElem?, List.getElem?_toArray, List.getElem?_cons_zero, List.getElem?_cons_succ, Option.getD_some]) | (refine q_assign _ rfl rfl ?_; simp only [Act.put, Act.eval, List.setIfInBounds_toArray, List.set_cons_zero, List.set_cons_succ, Array.getD_eq_getD_getElem?, List.getElem?_toArray, List.getElem?_cons_zero, List.getElem?_cons_succ, Option.getD_some]) | (refine q_load _ _ rfl rfl rfl f1 ty28 ?_; simp only [Act.put, Act.eval, List.setIfInBounds_toArray, List.set_cons_zero, List.set_cons_succ, Array.getD_eq_getD_getElem?, List.getElem?_toArray, List.getElem?_cons_zero, List.getElem?_cons_succ, Option.getD_some]) | (refine q_load _ _ rfl rfl rfl f2 ty37 ?_; simp only [Act.put, Act.eval, List.setIfInBounds_toArray, List.set_cons_zero, List.set_cons_succ, Array.getD_eq_getD_getElem?, List.getElem?_toArray, List.getElem?_cons_zero, List.getElem?_cons_succ, Option.getD_some]) | (refine q_load _ _ rfl rfl rfl d1 ty37 ?_; simp only [Act.put, Act.eval, List.setIfInBounds_toArray, List.set_cons_zero, List.set_cons_succ, Array.getD_eq_getD_getElem?, List.getElem?_toArray, List.getElem?_cons_zero, List.getElem?_cons_succ, Option.getD_some]) | (refine q_load _ _ rfl rfl rfl d2 ty37 ?_; simp only [Act.put, Act.eval, List.setIfInBounds_toArray, List.set_cons_zero, List.set_cons_succ, Array.getD_eq_getD_getElem?, List.getElem?_toArray, List.getElem?_cons_zero, List.getElem?_cons_succ, Option.getD_some]) | (refine q_any rfl ?_; apply Exists.intro; refine ⟨fun w hw => ?_, ?_⟩; (go_simp; first | exact ⟨rfl, rfl⟩ | rfl | (go_at_call 25; (with_reducible refine (seen_any th n c _).mono ?_); rintro e w' ⟨rfl, hb⟩; exact ⟨rfl, hw.call hb⟩) | (go_at_call 25; (with_reducible refine (HZ'.out _).mono ?_); rintro e w' ⟨rfl, hb⟩; exact ⟨rfl, hw.call hb⟩) | (go_at_call 26; (with_reducible refine (rseen_any _ _ _ _).mono ?_); rintro e w' ⟨rfl, hb⟩; exact ⟨rfl, hw.call hb⟩)); simp only [Act.put, Act.eval, List.setIfInBounds_toArray, List.set_cons_zero, List.set_cons_succ, Array.getD_eq_getD_getElem?, List.getElem?_toArray, List.getElem?_cons_zero, List.getElem?_cons_succ, Option.getD_some]))); refine wpQuiet_nil ?_; intro w2 hw2)
      go_wp2
      go_ret
      exact ⟨rfl, HB.out.trans ((HD.out.trans hw2).out.mono HL.out)⟩
    · have h6 : t < 6 := by omega
      have HO : ∀ w, Calls Try.prog 24 #[.agg (clk c), .int .i64 t] w fun e w' => e = .returned (.tuple #[.agg (ep 0 0), .int .i64 1]) ∧ Below w.heap.size w w' := fun w => by
        have := of_any c t w
        have e1 : ofT t = 0 ∧ ofN c t = 0 ∧ ofE t = 1 := by simp [ofT, ofN, ofE, ht]
        rwa [e1.1, e1.2.1, e1.2.2] at this
      have HO' := Lib.hid HO
      clear HO
      go_enter Try.func7, Try.ntmps7
      go_wp2_with (first | (refine loadB _ _ rfl rfl rfl b1 ty28 ?_))
      refine (HO'.out _).mono ?_
      rintro e w1 ⟨rfl, hb1⟩
      have c1 : Bel W w1 := Below.trans (Below.refl _ _) hb1
      have e1 := c1.box b1
      obtain ⟨d1, d2, hD, hd⟩ := boxes2 w1 (ep 0 0) #[.int .i64 0, .int .i64 0] 37 37
      have hD' : Bel W ((w1.alloc (.cells (ep 0 0) 37)).alloc (.cells #[.int .i64 0, .int .i64 0] 37)) := c1.trans hD
      have f1 := hD'.box b1
      have f2 := hD'.box b2
      have HD := Lib.hid hD'
      have hsz : w1.heap.size + 1 = (w1.alloc (.cells (ep 0 0) 37)).heap.size := by simp
      have HSZ := Lib.hid hsz
      clear hD hd hD' hsz
      go_wp2_with (first | (refine storeNew (c' := (ep 0 0)) _ _ _ rfl rfl rfl rfl rfl ty37 (ep_all _ _) ?_) | (refine storeNew (c' := #[.int .i64 0, .int .i64 0]) _ _ _ rfl rfl rfl rfl rfl ty37 (ep_all 0 0) ?_) | (refine storeNew (w := w1.alloc (.cells (ep 0 0) 37)) (c' := #[.int .i64 0, .int .i64 0]) _ _ _ rfl rfl (by rfl) (by rfl) rfl ty37 (ep_all _ _) ?_))
      (refine region_bel (by kernel_rfl) (by kernel_rfl) ?_; (repeat (first | (refine BigFrame.wpQuiet_skip rfl ?_; simp only [Act.put, Act.eval, List.setIfInBounds_toArray, List.set_cons_zero, List.set_cons_succ, Array.getD_eq_getD_getElem?, List.getElem?_toArray, List.getElem?_cons_zero, List.getElem?_cons_succ, Option.getD_some]) | (refine q_move _ rfl rfl ?_; simp only [Act.put, Act.eval, List.setIfInBounds_toArray, List.set_cons_zero, List.set_cons_succ, Array.getD_eq_getD_getElem?, List.getElem?_toArray, List.getElem?_cons_zero, List.getElem?_cons_succ, Option.getD_some]) | (refine q_assign _ rfl rfl ?_; simp only [Act.put, Act.eval, List.setIfInBounds_toArray, List.set_cons_zero, List.set_cons_succ, Array.getD_eq_getD_getElem?, List.getElem?_toArray, List.getElem?_cons_zero, List.getElem?_cons_succ, Option.getD_some]) | (refine q_load _ _ rfl rfl rfl f1 ty28 ?_; simp only [Act.put, Act.eval, List.setIfInBounds_toArray, List.set_cons_zero, List.set_cons_succ, Array.getD_eq_getD_getElem?, List.getElem?_toArray, List.getElem?_cons_zero, List.getElem?_cons_succ, Option.getD_some]) | (refine q_load _ _ rfl rfl rfl f2 ty37 ?_; simp only [Act.put, Act.eval, List.setIfInBounds_toArray, List.set_cons_zero, List.set_cons_succ, Array.getD_eq_getD_getElem?, List.getElem?_toArray, List.getElem?_cons_zero, List.getElem?_cons_succ, Option.getD_some]) | (refine q_load _ _ rfl rfl rfl d1 ty37 ?_; simp only [Act.put, Act.eval, List.setIfInBounds_toArray, List.set_cons_zero, List.set_cons_succ, Array.getD_eq_getD_getElem?, List.getElem?_toArray, List.getElem?_cons_zero, List.getElem?_cons_succ, Option.getD_some]) | (refine q_load _ _ rfl rfl rfl d2 ty37 ?_; simp only [Act.put, Act.eval, List.setIfInBounds_toArray, List.set_cons_zero, List.set_cons_succ, Array.getD_eq_getD_getElem?, List.getElem?_toArray, List.getElem?_cons_zero, List.getElem?_cons_succ, Option.getD_some]) | (refine q_any rfl ?_; apply Exists.intro; refine ⟨fun w hw => ?_, ?_⟩; (go_simp; first | exact ⟨rfl, rfl⟩ | rfl | (go_at_call 25; (with_reducible refine (seen_any th n c _).mono ?_); rintro e w' ⟨rfl, hb⟩; exact ⟨rfl, hw.call hb⟩) | (go_at_call 25; (with_reducible refine (HZ'.out _).mono ?_); rintro e w' ⟨rfl, hb⟩; exact ⟨rfl, hw.call hb⟩) | (go_at_call 26; (with_reducible refine (rseen_any _ _ _ _).mono ?_); rintro e w' ⟨rfl, hb⟩; exact ⟨rfl, hw.call hb⟩)); simp only [Act.put, Act.eval, List.setIfInBounds_toArray, List.set_cons_zero, List.set_cons_succ, Array.getD_eq_getD_getElem?, List.getElem?_toArray, List.getElem?_cons_zero, List.getElem?_cons_succ, Option.getD_some]))); refine wpQuiet_nil ?_; intro w2 hw2)
      go_wp2
      go_ret
      exact ⟨rfl, HB.out.trans ((HD.out.trans hw2).out.mono HL.out)⟩

set_option maxRecDepth 100000 in
theorem lifted (os : Os) (started : os.Started) (H : Type) (enc : TypeId × Value → H) :
    ReturnsInHanded {} Try.checked os 7 .any (Rows.clockEpochsSpec.pre6 enc Try.prog Try.f7 Rows.clockEpochsRow.domain false) (Rows.clockEpochsSpec.post enc Try.prog Try.f7 false true false false) := by
  refine returnsInHanded_of_change (C := Try.checked) own started (by kernel_rfl) Try.func7
    (ChangeSpec.witness6 (enc := enc) (C := Try.checked) false ⟨#[], #[.agg #[.int .i64 0, .int .i64 0, .int .i64 0, .int .i64 0, .int .i64 0, .int .i64 0], .int .i64 0, .agg #[.int .i64 0, .int .i64 0]], []⟩ 8 (by kernel_rfl) (by kernel_rfl) (by kernel_rfl) (by kernel_rfl)) ?_
  intro W base args ds gs before hval0 hW hcnd _
  have hval : ∀ (j : Nat) t v, Try.f7.params[j]? = some t → args[j]? = some v → Value.okWide Try.prog W .any base t v := hval0
  have hW' := hW
  obtain ⟨p, q, hA0, hV, rfl, hfz, hnd⟩ := hW
  have hA : DataW.TrodAll enc Try.prog W 0 (fun _ => true) true Try.f7.params.toList args.toList ds p := hA0
  rw [Try.params7] at hA hval
  obtain ⟨v0, vs0, d0, ds0, p0, q0, hargs, rfl, rfl, h0, r0⟩ := trodAll_cons hA
  obtain ⟨v1, vs1, d1, ds1, p1, q1, rfl, rfl, rfl, h1, r1⟩ := trodAll_cons r0
  obtain ⟨v2, vs2, d2, ds2, p2, q2, rfl, rfl, rfl, h2, r2⟩ := trodAll_cons r1
  obtain ⟨rfl, rfl, rfl⟩ := trodAll_nil r2
  obtain rfl : args = #[v0, v1, v2] := by cases args; simp_all
  obtain ⟨rfl, rfl⟩ := trodVars_none hV
  have t0 := h0
  have lt0 : ∀ x ∈ p0, x.block < W.heap.size := by obtain ⟨m, hm⟩ := t0; exact DataW.trod_lt m _ _ _ hm
  have t1 := h1
  have lt1 : ∀ x ∈ p1, x.block < W.heap.size := by obtain ⟨m, hm⟩ := t1; exact DataW.trod_lt m _ _ _ hm
  have t2 := h2
  have lt2 : ∀ x ∈ p2, x.block < W.heap.size := by obtain ⟨m, hm⟩ := t2; exact DataW.trod_lt m _ _ _ hm
  obtain ⟨a0, rfl, k0⟩ := open_clk Try.underlying28 Try.underlying3 (by kernel_rfl) (by kernel_rfl) (hval 0 28 v0 rfl rfl) h0
  obtain ⟨a1, rfl, _, _, x1⟩ := open_int Try.underlying3 (hval 1 3 v1 rfl rfl) h1
  have k1 := in64_of x1
  obtain ⟨a2, b2, rfl, _, _⟩ := open_ep Try.underlying37 ⟨rfl, rfl⟩ (by kernel_rfl) (by kernel_rfl) Try.underlying3 (hval 2 37 v2 rfl rfl) h2
  clear hA0 hval0
  refine (walk a0 k0 a1 k1 a2 b2 W).mono fun e W' ⟨he, bel⟩ => ?_
  subst he
  exact ⟨_, rfl, _, _, _, [], _, [], hW', trodAll_mk1 (shut_bool Try.underlying4 _), (trodAll_cons_mk (Below.trod laidOut (by kernel_rfl) (of_decide_eq_true (by kernel_rfl)) t0 bel lt0) (trodAll_cons_mk (Below.trod laidOut (by kernel_rfl) (of_decide_eq_true (by kernel_rfl)) t1 bel lt1) (trodAll_cons_mk (Below.trod laidOut (by kernel_rfl) (of_decide_eq_true (by kernel_rfl)) t2 bel lt2) trodAll_mk0))), rfl, bel.frame _, fun h => by cases h⟩

theorem over : Rows.clockEpochsRow.holds Try.pinned (OpenSpec.ofChange Rows.clockEpochsSpec) :=
  OpenClaim.holds_of_wide 7 Try.f7 rfl rfl rfl rfl rfl rfl rfl ⟨rfl, rfl, rfl, rfl, rfl⟩ rfl rfl rfl rfl rfl (by kernel_rfl) Try.func7 (by kernel_rfl)
    (of_decide_eq_true (by kernel_rfl)) (by unfold Func.isWrapper; first | (rw [if_pos (by decide +kernel)]; kernel_rfl) | (rw [if_neg (by decide +kernel)]; exact ⟨rfl, rfl⟩))
    (fun os started H enc _ => lifted os started H enc)

theorem proved : Rows.ClockEpochsSaid := over
#print axioms proved
end Go.Proofs.Ytcndebndmibdmaa.LClockEpochs
