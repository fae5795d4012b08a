/- 'deadheatlaw.ClockTicks' returns true for every input and leaves its arguments as they are. No condition. -/
import Derived.Test.YtcndebndmibdmaaOpen
import Derived.Test.YtcndebndmibdmaaRefClock
set_option linter.all false
namespace Go.Proofs.Ytcndebndmibdmaa.LClockTicks
open Go Go.ChangeShapes Go.WideShapes Go.ChangeAt Go.RowKit
set_option linter.unusedVariables false

set_option maxHeartbeats 1000000 in
theorem walk (c : Nat → Int) (kc : ClkOk c) (t : Int) (kt : In64 t) (w : World) :
    Calls Try.prog 6 #[.agg (clk c), .int .i64 t] w fun e w' => e = .returned (.bool true) ∧ Below w.heap.size w w' := by
  obtain ⟨b1, hB, hs⟩ := boxes1 w (clk c) 28
  generalize hW : w.alloc (.cells (clk c) 28) = W at *
  have L1 : w.heap.size < W.heap.size := by omega
  have E1 : ∀ w, (binOp .eql 28 (.agg (clk (tickC c t))) (.agg (clk (tickC c t)))).run Try.prog w = .ok (.bool true) w := fun w => by
    rw [eqlC, (eqc_iff _ _).2 fun k _ => rfl]
  have G := grdC
  have HB := Lib.hid hB
  have HC := Lib.hid kc
  clear hB hs kc
  go_enter Try.func6, Try.ntmps6
  go_wp2_with (first | (refine loadB _ _ rfl rfl rfl b1 ty28 ?_))
  refine (tick_any c t HC.out _).mono ?_
  rintro e w1 ⟨rfl, hb1⟩
  have c1 := b1.below hb1 L1
  have c1' := c1.old (.cells (clk (tickC c t)) 28)
  have hn := Box.new w1 (clk (tickC c t)) 28
  have hS : (w1.alloc (.cells (clk (tickC c t)) 28)).heap.size = w1.heap.size + 1 := by simp
  have hB1 : Below w.heap.size w (w1.alloc (.cells (clk (tickC c t)) 28)) := (HB.out.trans (hb1.mono (by omega))).alloc (by have := hb1.size; omega) _
  have HB1 := Lib.hid hB1
  have HW1 : ∀ w2, Below (w1.alloc (.cells (clk (tickC c t)) 28)).heap.size (w1.alloc (.cells (clk (tickC c t)) 28)) w2 → Box w2 w1.heap.size (clk (tickC c t)) 28 := fun w2 h => hn.below h hn.lt
  have HSZ := Lib.hid (show w.heap.size < w1.heap.size from Nat.lt_of_lt_of_le L1 hb1.size)
  clear hS hB1 hn
  go_wp2_with (first | (refine storeNew (c' := clk (tickC c t)) _ _ _ rfl rfl rfl rfl rfl ty28 (clk_all _) ?_) | (refine loadB _ _ rfl rfl rfl c1' ty28 ?_))
  refine (rtick_any c t HC.out _).mono ?_
  rintro e w2 ⟨rfl, hb2⟩
  have d1 := (HW1 w2 hb2).old (.cells (clk (tickC c t)) 28)
  have d2 := Box.new w2 (clk (tickC c t)) 28
  have HT : Below w.heap.size w (w2.alloc (.cells (clk (tickC c t)) 28)) := (HB1.out.trans (hb2.mono (by have := HSZ.out; simp; omega))).alloc (by have := HSZ.out; have := hb2.size; simp at this; omega) _
  have HT' := Lib.hid HT
  clear HT
  go_wp2_with (first | (refine storeNew (c' := clk (tickC c t)) _ _ _ rfl rfl rfl rfl rfl ty28 (clk_all _) ?_) | (refine loadB _ _ rfl rfl rfl d1 ty28 ?_) | (refine loadB _ _ rfl rfl rfl d2 ty28 ?_))
  go_ret
  exact ⟨rfl, HT'.out⟩

set_option maxRecDepth 100000 in
theorem lifted (os : Os) (started : os.Started) (H : Type) (enc : TypeId × Value → H) :
    ReturnsInHanded {} Try.checked os 6 .any (Rows.clockTicksSpec.pre6 enc Try.prog Try.f6 Rows.clockTicksRow.domain false) (Rows.clockTicksSpec.post enc Try.prog Try.f6 false true false false) := by
  refine returnsInHanded_of_change (C := Try.checked) own started (by kernel_rfl) Try.func6
    (ChangeSpec.witness6 (enc := enc) (C := Try.checked) false ⟨#[], #[.agg #[.int .i64 0, .int .i64 0, .int .i64 0, .int .i64 0, .int .i64 0, .int .i64 0], .int .i64 0], []⟩ 8 (by kernel_rfl) (by kernel_rfl) (by kernel_rfl) (by kernel_rfl)) ?_
  intro W base args ds gs before hval0 hW hcnd _
  have hval : ∀ (j : Nat) t v, Try.f6.params[j]? = some t → args[j]? = some v → Value.okWide Try.prog W .any base t v := hval0
  have hW' := hW
  obtain ⟨p, q, hA0, hV, rfl, hfz, hnd⟩ := hW
  have hA : DataW.TrodAll enc Try.prog W 0 (fun _ => true) true Try.f6.params.toList args.toList ds p := hA0
  rw [Try.params6] at hA hval
  obtain ⟨v0, vs0, d0, ds0, p0, q0, hargs, rfl, rfl, h0, r0⟩ := trodAll_cons hA
  obtain ⟨v1, vs1, d1, ds1, p1, q1, rfl, rfl, rfl, h1, r1⟩ := trodAll_cons r0
  obtain ⟨rfl, rfl, rfl⟩ := trodAll_nil r1
  obtain rfl : args = #[v0, v1] := by cases args; simp_all
  obtain ⟨rfl, rfl⟩ := trodVars_none hV
  have t0 := h0
  have lt0 : ∀ x ∈ p0, x.block < W.heap.size := by obtain ⟨m, hm⟩ := t0; exact DataW.trod_lt m _ _ _ hm
  have t1 := h1
  have lt1 : ∀ x ∈ p1, x.block < W.heap.size := by obtain ⟨m, hm⟩ := t1; exact DataW.trod_lt m _ _ _ hm
  obtain ⟨a0, rfl, k0⟩ := open_clk Try.underlying28 Try.underlying3 (by kernel_rfl) (by kernel_rfl) (hval 0 28 v0 rfl rfl) h0
  obtain ⟨a1, rfl, _, _, x1⟩ := open_int Try.underlying3 (hval 1 3 v1 rfl rfl) h1
  have k1 := in64_of x1
  clear hA0 hval0
  refine (walk a0 k0 a1 k1 W).mono fun e W' ⟨he, bel⟩ => ?_
  subst he
  exact ⟨_, rfl, _, _, _, [], _, [], hW', trodAll_mk1 (shut_bool Try.underlying4 _), (trodAll_cons_mk (Below.trod laidOut (by kernel_rfl) (of_decide_eq_true (by kernel_rfl)) t0 bel lt0) (trodAll_cons_mk (Below.trod laidOut (by kernel_rfl) (of_decide_eq_true (by kernel_rfl)) t1 bel lt1) trodAll_mk0)), rfl, bel.frame _, fun h => by cases h⟩

theorem over : Rows.clockTicksRow.holds Try.pinned (OpenSpec.ofChange Rows.clockTicksSpec) :=
  OpenClaim.holds_of_wide 6 Try.f6 rfl rfl rfl rfl rfl rfl rfl ⟨rfl, rfl, rfl, rfl, rfl⟩ rfl rfl rfl rfl rfl (by kernel_rfl) Try.func6 (by kernel_rfl)
    (of_decide_eq_true (by kernel_rfl)) (by unfold Func.isWrapper; first | (rw [if_pos (by decide +kernel)]; kernel_rfl) | (rw [if_neg (by decide +kernel)]; exact ⟨rfl, rfl⟩))
    (fun os started H enc _ => lifted os started H enc)

theorem proved : Rows.ClockTicksSaid := over
#print axioms proved
end Go.Proofs.Ytcndebndmibdmaa.LClockTicks
