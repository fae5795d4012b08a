/- 'deadheatkeep.ClockRises' returns true for every input and leaves its arguments as they are. No condition. -/
import Derived.Test.YtcndebndmibdmaaOpen
import Derived.Test.YtcndebndmibdmaaRefClock
import Derived.Test.YtcndebndmibdmaaClocked
set_option linter.all false
namespace Go.Proofs.Ytcndebndmibdmaa.LClockRises
open Go Go.ChangeShapes Go.WideShapes Go.ChangeAt Go.RowKit
set_option linter.unusedVariables false

theorem cmp_tick {c : Nat → Int} {k : Nat} (hk : k < 6) : cmp c (upd c k (c k + 1)) = 1 := by
  have h1 : ¬ eqc c (upd c k (c k + 1)) = true := fun h => by have := (eqc_iff _ _).1 h k hk; simp [upd] at this; omega
  have h2 : within c (upd c k (c k + 1)) = true := (within_iff _ _).2 fun j _ => by unfold upd; split <;> (try subst_vars) <;> omega
  simp [cmp, h1, h2]

set_option maxHeartbeats 1000000 in
theorem walk (c : Nat → Int) (kc : ClkOk c) (t : Int) (kt : In64 t) (w : World) :
    Calls Try.prog 11 #[.agg (clk c), .int .i64 t] w fun e w' => e = .returned (.bool true) ∧ Below w.heap.size w w' := by
  obtain ⟨b1, hB, hs⟩ := boxes1 w (clk c) 28
  generalize hW : w.alloc (.cells (clk c) 28) = W at *
  have G := grdC
  have HB := Lib.hid hB
  have HL := Lib.hid (show w.heap.size ≤ W.heap.size by omega)
  clear hB hs
  by_cases ht : isT t = true ∧ c t.toNat < 1000000
  · obtain ⟨ht, hm⟩ := ht
    obtain ⟨h0, h6⟩ := isT_iff.1 ht
    obtain ⟨k, rfl⟩ := Int.eq_ofNat_of_zero_le h0
    have hk : k < 6 := by omega
    simp only [Int.toNat_natCast] at hm
    have HTK : ∀ w, Calls Try.prog 22 #[.agg (clk c), .int .i64 k] w fun e w' => e = .returned (.tuple #[.agg (clk (upd c k (c k + 1))), .int .i64 0]) ∧ Below w.heap.size w w' := fun w => by
      have := tick_any c k kc w
      have e1 : tickC c k = upd c k (c k + 1) := by unfold tickC; rw [if_pos ⟨ht, by simpa using hm⟩]; simp
      have e2 : tickE c k = 0 := by unfold tickE; rw [if_pos ht, if_pos (by simpa using hm)]
      rwa [e1, e2] at this
    have HTK' := Lib.hid HTK
    have HC : ∀ w, Calls Try.prog 18 #[.agg (clk c), .agg (clk (upd c k (c k + 1)))] w fun e w' => e = .returned (.int .i64 1) ∧ Below w.heap.size w w' := fun w => by
      have := compare_any c (upd c k (c k + 1)) w
      rwa [cmp_tick hk] at this
    have HC' := Lib.hid HC
    have hin := kc k hk
    have hw1 : IntKind.i64.wrap (c k + 1) = c k + 1 := IntWalk.i64_in _ (by unfold In64 at hin; omega)
    have hw2 : wrap64 (c k + 1 - 1) = c k := by rw [show c k + 1 - 1 = c k by omega]; exact IntWalk.wrap64_in _ hin
    have HW1 := Lib.hid hw1
    have HW2 := Lib.hid hw2
    clear hm kc kt HTK HC hin hw1 hw2
    go_enter Try.func11, Try.ntmps11
    go_wp2_with fail
    refine (clocked_any _).mono ?_
    rintro e w1 ⟨rfl, hb1⟩
    have k1 : Bel W w1 := hb1
    have d1 := k1.box b1
    clear hb1
    go_wp2_with (first | (refine loadB _ _ rfl rfl rfl d1 ty28 ?_))
    refine (HTK'.out _).mono ?_
    rintro e wa ⟨rfl, hba⟩
    have k2 : Bel W wa := k1.call hba
    have d2 := (k2.alloc (.cells (clk (upd c k (c k + 1))) 28)).box b1
    have d3 := Box.new wa (clk (upd c k (c k + 1))) 28
    have K2 := Lib.hid k2
    have hne : w.heap.size ≠ wa.heap.size := by have := HL.out; have := b1.lt; have := k2.size; omega
    have HNE := Lib.hid hne
    clear k1 k2 d1 hba hne
    go_wp2_with (first | (refine storeNew (c' := clk (upd c k (c k + 1))) _ _ _ rfl rfl rfl rfl rfl ty28 (clk_all _) ?_))
    have v3 : (clk (upd c k (c k + 1)))[k]? = some (.int .i64 (c k + 1)) := by rw [clk_get _ k hk]; simp [upd]
    have F1 : ∀ w', Bel (wa.alloc (.cells (clk (upd c k (c k + 1))) 28)) w' → w'.cell? ⟨wa.heap.size, k, none⟩ = some (.int .i64 (c k + 1)) := fun w' h => h.cell (d3.cell k v3)
    have F2 : ∀ w', Bel (wa.alloc (.cells (clk (upd c k (c k + 1))) 28)) w' → w'.cell? ⟨w.heap.size, k, none⟩ = some (.int .i64 (c k)) := fun w' h => h.cell (d2.cell k (clk_get c k hk))
    have hw1 := HW1.out
    have hw1' : wrap64 (c k + 1) = c k + 1 := by have := hw1; rw [IntKind.wrap_i64] at this; unfold wrap64; exact this
    clear v3
    (refine region_bel (by kernel_rfl) (by kernel_rfl) ?_; (repeat (first | (refine BigFrame.wpQuiet_skip rfl ?_; simp only [Act.put, Act.eval, List.setIfInBounds_toArray, List.set_cons_zero, List.set_cons_succ, Array.getD_eq_getD_getElem?, List.getElem?_toArray, List.getElem?_cons_zero, List.getElem?_cons_succ, Option.getD_some]) | (refine q_move _ rfl rfl ?_; simp only [Act.put, Act.eval, List.setIfInBounds_toArray, List.set_cons_zero, List.set_cons_succ, Array.getD_eq_getD_getElem?, List.getElem?_toArray, List.getElem?_cons_zero, List.getElem?_cons_succ, Option.getD_some]) | (refine q_assign _ rfl rfl ?_; simp only [Act.put, Act.eval, List.setIfInBounds_toArray, List.set_cons_zero, List.set_cons_succ, Array.getD_eq_getD_getElem?, List.getElem?_toArray, List.getElem?_cons_zero, List.getElem?_cons_succ, Option.getD_some]) | (refine q_load _ _ rfl rfl rfl d2 ty28 ?_; simp only [Act.put, Act.eval, List.setIfInBounds_toArray, List.set_cons_zero, List.set_cons_succ, Array.getD_eq_getD_getElem?, List.getElem?_toArray, List.getElem?_cons_zero, List.getElem?_cons_succ, Option.getD_some]) | (refine q_load _ _ rfl rfl rfl d3 ty28 ?_; simp only [Act.put, Act.eval, List.setIfInBounds_toArray, List.set_cons_zero, List.set_cons_succ, Array.getD_eq_getD_getElem?, List.getElem?_toArray, List.getElem?_cons_zero, List.getElem?_cons_succ, Option.getD_some]) | (refine q_any rfl ?_; apply Exists.intro; refine ⟨fun w hw => ?_, ?_⟩; (have fct0 := F1 w hw; have fct1 := F2 w hw; go_simp; first | exact ⟨rfl, rfl⟩ | rfl | (go_at_call 18; (with_reducible refine (HC'.out _).mono ?_); rintro e w' ⟨rfl, hb⟩; exact ⟨rfl, hw.call hb⟩)); simp only [Act.put, Act.eval, List.setIfInBounds_toArray, List.set_cons_zero, List.set_cons_succ, Array.getD_eq_getD_getElem?, List.getElem?_toArray, List.getElem?_cons_zero, List.getElem?_cons_succ, Option.getD_some]))); refine wpQuiet_nil ?_; intro w2 hw2)
    have e2 := hw2.box d2
    have e3 := hw2.box d3
    have f3 := e3.frozen k
    have s3 := e3.set k (.int .i64 (c k))
    rw [clk_set _ _ hk] at s3
    have s2 := e2.set_ne ⟨wa.heap.size, k, none⟩ (.int .i64 (c k)) HNE.out
    have hk3 := F1 w2 hw2
    have hsub : IntKind.i64.wrap (c k + 1 - 1) = c k := by rw [IntKind.wrap_i64]; have := HW2.out; unfold wrap64 at this; exact this
    have hsub' : wrap64 (c k + 1 - 1) = c k := HW2.out
    have hc1 : c k + 1 - 1 = c k := by omega
    have hs4 : wrap64 (c k) = c k := by have := HW2.out; rwa [hc1] at this
    have HU := Lib.hid hw2
    clear F1 F2 hw1 hw1' e2 e3 d2 d3 hw2 hc1
    have E1 : ∀ w, (binOp .eql 28 (.agg (clk (upd (upd c k (c k + 1)) k (c k)))) (.agg (clk c))).run Try.prog w = .ok (.bool true) w := fun w => by
      rw [eqlC, (eqc_iff _ _).2 fun j _ => by unfold upd; split <;> simp_all]
    go_wp2_with (first | (refine loadB _ _ rfl rfl rfl s2 ty28 ?_) | (refine loadB _ _ rfl rfl rfl s3 ty28 ?_))
    go_ret
    exact ⟨rfl, HB.out.trans (((K2.out.alloc _).trans HU.out).out.mono HL.out |>.setCell (by have := HL.out; have := K2.out.size; simp; omega) _)⟩
  · have HTK : ∀ w, Calls Try.prog 22 #[.agg (clk c), .int .i64 t] w fun e w' => e = .returned (.tuple #[.agg #[.int .i64 0, .int .i64 0, .int .i64 0, .int .i64 0, .int .i64 0, .int .i64 0], .int .i64 (tickE c t)]) ∧ Below w.heap.size w w' := fun w => by
      have := tick_any c t kc w
      have e1 : tickC c t = fun _ => 0 := by unfold tickC; rw [if_neg ht]
      rw [e1] at this
      exact this
    have HTK' := Lib.hid HTK
    have hE : (tickE c t != 0) = true := by
      unfold tickE
      split
      · rename_i h1
        rw [if_neg (fun h2 => ht ⟨h1, h2⟩)]; rfl
      · rfl
    have EZ : ∀ w, (binOp .eql 28 (.agg #[.int .i64 0, .int .i64 0, .int .i64 0, .int .i64 0, .int .i64 0, .int .i64 0]) (.agg #[.int .i64 0, .int .i64 0, .int .i64 0, .int .i64 0, .int .i64 0, .int .i64 0])).run Try.prog w = .ok (.bool true) w := fun w => by
      have := eqlC (fun _ => 0) (fun _ => 0) w
      rwa [(eqc_iff _ _).2 fun k _ => rfl] at this
    clear HTK kc kt
    go_enter Try.func11, Try.ntmps11
    go_wp2_with fail
    refine (clocked_any _).mono ?_
    rintro e w1 ⟨rfl, hb1⟩
    have k1 : Bel W w1 := hb1
    have d1 := k1.box b1
    clear hb1
    go_wp2_with (first | (refine loadB _ _ rfl rfl rfl d1 ty28 ?_))
    refine (HTK'.out _).mono ?_
    rintro e w2 ⟨rfl, hb2⟩
    have k2 : Bel W w2 := k1.call hb2
    have d3 := Box.new w2 #[.int .i64 0, .int .i64 0, .int .i64 0, .int .i64 0, .int .i64 0, .int .i64 0] 28
    have K2 := Lib.hid k2
    clear k1 k2 d1 hb2
    go_wp2_with (first | (refine storeNew (c' := #[.int .i64 0, .int .i64 0, .int .i64 0, .int .i64 0, .int .i64 0, .int .i64 0]) _ _ _ rfl rfl rfl rfl rfl ty28 z_all ?_) | (refine loadB _ _ rfl rfl rfl d3 ty28 ?_))
    go_ret
    exact ⟨rfl, HB.out.trans ((K2.out.alloc _).out.mono HL.out)⟩

set_option maxRecDepth 100000 in
theorem lifted (os : Os) (started : os.Started) (H : Type) (enc : TypeId × Value → H) :
    ReturnsInHanded {} Try.checked os 11 .any (Rows.clockRisesSpec.pre6 enc Try.prog Try.f11 Rows.clockRisesRow.domain false) (Rows.clockRisesSpec.post enc Try.prog Try.f11 false true false false) := by
  refine returnsInHanded_of_change (C := Try.checked) own started (by kernel_rfl) Try.func11
    (ChangeSpec.witness6 (enc := enc) (C := Try.checked) false ⟨#[], #[.agg #[.int .i64 0, .int .i64 0, .int .i64 0, .int .i64 0, .int .i64 0, .int .i64 0], .int .i64 0], []⟩ 8 (by kernel_rfl) (by kernel_rfl) (by kernel_rfl) (by kernel_rfl)) ?_
  intro W base args ds gs before hval0 hW hcnd _
  have hval : ∀ (j : Nat) t v, Try.f11.params[j]? = some t → args[j]? = some v → Value.okWide Try.prog W .any base t v := hval0
  have hW' := hW
  obtain ⟨p, q, hA0, hV, rfl, hfz, hnd⟩ := hW
  have hA : DataW.TrodAll enc Try.prog W 0 (fun _ => true) true Try.f11.params.toList args.toList ds p := hA0
  rw [Try.params11] at hA hval
  obtain ⟨v0, vs0, d0, ds0, p0, q0, hargs, rfl, rfl, h0, r0⟩ := trodAll_cons hA
  obtain ⟨v1, vs1, d1, ds1, p1, q1, rfl, rfl, rfl, h1, r1⟩ := trodAll_cons r0
  obtain ⟨rfl, rfl, rfl⟩ := trodAll_nil r1
  obtain rfl : args = #[v0, v1] := by cases args; simp_all
  obtain ⟨rfl, rfl⟩ := trodVars_none hV
  have t0 := h0
  have lt0 : ∀ x ∈ p0, x.block < W.heap.size := by obtain ⟨m, hm⟩ := t0; exact DataW.trod_lt m _ _ _ hm
  have t1 := h1
  have lt1 : ∀ x ∈ p1, x.block < W.heap.size := by obtain ⟨m, hm⟩ := t1; exact DataW.trod_lt m _ _ _ hm
  obtain ⟨a0, rfl, k0⟩ := open_clk Try.underlying28 Try.underlying3 (by kernel_rfl) (by kernel_rfl) (hval 0 28 v0 rfl rfl) h0
  obtain ⟨a1, rfl, _, _, x1⟩ := open_int Try.underlying3 (hval 1 3 v1 rfl rfl) h1
  have k1 := in64_of x1
  clear hA0 hval0
  refine (walk a0 k0 a1 k1 W).mono fun e W' ⟨he, bel⟩ => ?_
  subst he
  exact ⟨_, rfl, _, _, _, [], _, [], hW', trodAll_mk1 (shut_bool Try.underlying4 _), (trodAll_cons_mk (Below.trod laidOut (by kernel_rfl) (of_decide_eq_true (by kernel_rfl)) t0 bel lt0) (trodAll_cons_mk (Below.trod laidOut (by kernel_rfl) (of_decide_eq_true (by kernel_rfl)) t1 bel lt1) trodAll_mk0)), rfl, bel.frame _, fun h => by cases h⟩

theorem over : Rows.clockRisesRow.holds Try.pinned (OpenSpec.ofChange Rows.clockRisesSpec) :=
  OpenClaim.holds_of_wide 11 Try.f11 rfl rfl rfl rfl rfl rfl rfl ⟨rfl, rfl, rfl, rfl, rfl⟩ rfl rfl rfl rfl rfl (by kernel_rfl) Try.func11 (by kernel_rfl)
    (of_decide_eq_true (by kernel_rfl)) (by unfold Func.isWrapper; first | (rw [if_pos (by decide +kernel)]; kernel_rfl) | (rw [if_neg (by decide +kernel)]; exact ⟨rfl, rfl⟩))
    (fun os started H enc _ => lifted os started H enc)

theorem proved : Rows.ClockRisesSaid := over
#print axioms proved
end Go.Proofs.Ytcndebndmibdmaa.LClockRises
