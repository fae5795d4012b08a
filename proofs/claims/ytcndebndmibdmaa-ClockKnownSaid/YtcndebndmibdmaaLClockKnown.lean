/- 'deadheatkeep.ClockKnown' returns true for every input and leaves its arguments as they are. No condition. -/
import Derived.Test.YtcndebndmibdmaaOpen
import Derived.Test.YtcndebndmibdmaaRefClock
import Derived.Test.YtcndebndmibdmaaClocked
set_option linter.all false
namespace Go.Proofs.Ytcndebndmibdmaa.LClockKnown
open Go Go.ChangeShapes Go.WideShapes Go.ChangeAt Go.RowKit
set_option linter.unusedVariables false

def upTo (a b : Nat → Int) (k : Nat) : Bool := (List.range k).all fun j => decide (a j ≤ b j)
theorem upTo_zero (a b : Nat → Int) : upTo a b 0 = true := rfl
theorem upTo_succ (a b : Nat → Int) (k : Nat) : upTo a b (k + 1) = (upTo a b k && decide (a k ≤ b k)) := by
  simp [upTo, List.range_succ]
theorem upTo_six (a b : Nat → Int) : upTo a b 6 = within a b := rfl
structure KRel (a b : Nat → Int) (W : World) (k : Nat) (i all : Value) (wr : World) : Prop where
  le : k ≤ 6
  hi : i = .int .i64 k
  hall : all = .bool (upTo a b k)
  bel : Bel W wr

set_option maxHeartbeats 1000000 in
theorem walk (a : Nat → Int) (ka : ClkOk a) (b : Nat → Int) (kb : ClkOk b) (w : World) :
    Calls Try.prog 12 #[.agg (clk a), .agg (clk b)] w fun e w' => e = .returned (.bool true) ∧ Below w.heap.size w w' := by
  obtain ⟨b1, b2, hB, hs⟩ := boxes2 w (clk a) (clk b) 28 28
  generalize hW : ((w.alloc (.cells (clk a) 28)).alloc (.cells (clk b) 28)) = W at *
  have HB := Lib.hid hB
  have HL := Lib.hid (show w.heap.size ≤ W.heap.size by omega)
  clear hB hs ka kb
  go_enter Try.func12, Try.ntmps12
  go_wp2_with fail
  refine (clocked_any _).mono ?_
  rintro e w1 ⟨rfl, hb1⟩
  have K1 := Lib.hid (show Bel W w1 from hb1)
  clear hb1
  go_wp2
  go_loopw [5, 11] (fun all i wr => ∃ k : Nat, KRel a b W k i all wr) (fun _ i _ => 6 - (intOf i).toNat)
  case atStart => exact ⟨0, by omega, rfl, rfl, K1.out⟩
  case round =>
    obtain ⟨k, hle, rfl, rfl, hbel⟩ := hrel
    have c1 := hbel.box b1
    have c2 := hbel.box b2
    have KB := Lib.hid hbel
    clear hbel
    by_cases hlt : k < 6
    · have hlt' : (k : Int) < 6 := by omega
      have HO : ∀ w, Calls Try.prog 24 #[.agg (clk a), .int .i64 k] w fun e w' => e = .returned (.tuple #[.agg (ep k (a k)), .int .i64 0]) ∧ Below w.heap.size w w' := fun w => by
        have := of_any a k w
        have ht : isT (k : Int) = true := isT_yes (by omega) hlt'
        have e1 : ofT (k : Int) = k ∧ ofN a k = a k ∧ ofE k = 0 := by simp [ofT, ofN, ofE, ht]
        rwa [e1.1, e1.2.1, e1.2.2] at this
      have HSN : ∀ w, Calls Try.prog 25 #[.agg (ep k (a k)), .agg (clk b)] w fun e w' => e = .returned (.bool (decide (a k ≤ b k))) ∧ Below w.heap.size w w' := fun w => by
        have := seen_any k (a k) b w
        have ht : isT (k : Int) = true := isT_yes (by omega) hlt'
        rwa [show seen k (a k) b = decide (a k ≤ b k) by simp [seen, ht]] at this
      have HO' := Lib.hid HO
      have HSN' := Lib.hid HSN
      have HUP := Lib.hid (upTo_succ a b k)
      clear HO HSN
      cases hu : upTo a b k
      all_goals
        go_wp2_with (first | (refine loadB _ _ rfl rfl rfl c1 ty28 ?_))
        refine (HO'.out _).mono ?_
        rintro e w2 ⟨rfl, hb2⟩
        have k2 : Bel W w2 := KB.out.call hb2
        have d2 := (k2.alloc (.cells (ep k (a k)) 37)).box b2
        have d3 := Box.new w2 (ep k (a k)) 37
        have g3 := d3.cell 0 (v := .int .i64 k) rfl
        have K2 := Lib.hid (k2.alloc (.cells (ep k (a k)) 37))
        clear k2 hb2
        go_wp2_with (first | (refine storeNew (c' := ep k (a k)) _ _ _ rfl rfl rfl rfl rfl ty37 (ep_all _ _) ?_) | (refine loadW _ _ rfl rfl rfl d3 ty37 ?_) | (refine loadW _ _ rfl rfl rfl d2 ty28 ?_))
      · go_roundw
        case rel => exact ⟨k + 1, by omega, by go_num, by rw [HUP.out, hu]; rfl, K2.out⟩
        case measure => simp [intOf]; omega
      · refine (HSN'.out _).mono ?_
        rintro e w3 ⟨rfl, hb3⟩
        have K3 := Lib.hid (K2.out.call hb3)
        clear hb3
        go_wp2
        go_roundw
        case rel => exact ⟨k + 1, by omega, by go_num, by rw [HUP.out, hu]; simp, K3.out⟩
        case measure => simp [intOf]; omega
    · obtain rfl : k = 6 := by omega
      rw [upTo_six]
      go_wp2_with (first | (refine loadB _ _ rfl rfl rfl c1 ty28 ?_) | (refine loadB _ _ rfl rfl rfl c2 ty28 ?_))
      refine (within_any a b _).mono ?_
      rintro e w2 ⟨rfl, hb2⟩
      have K2 := Lib.hid (KB.out.call hb2)
      clear hb2
      go_wp2
      go_ret
      exact ⟨ret_val (by simp), HB.out.trans (K2.out.out.mono HL.out)⟩

set_option maxRecDepth 100000 in
theorem lifted (os : Os) (started : os.Started) (H : Type) (enc : TypeId × Value → H) :
    ReturnsInHanded {} Try.checked os 12 .any (Rows.clockKnownSpec.pre6 enc Try.prog Try.f12 Rows.clockKnownRow.domain false) (Rows.clockKnownSpec.post enc Try.prog Try.f12 false true false false) := by
  refine returnsInHanded_of_change (C := Try.checked) own started (by kernel_rfl) Try.func12
    (ChangeSpec.witness6 (enc := enc) (C := Try.checked) false ⟨#[], #[.agg #[.int .i64 0, .int .i64 0, .int .i64 0, .int .i64 0, .int .i64 0, .int .i64 0], .agg #[.int .i64 0, .int .i64 0, .int .i64 0, .int .i64 0, .int .i64 0, .int .i64 0]], []⟩ 8 (by kernel_rfl) (by kernel_rfl) (by kernel_rfl) (by kernel_rfl)) ?_
  intro W base args ds gs before hval0 hW hcnd _
  have hval : ∀ (j : Nat) t v, Try.f12.params[j]? = some t → args[j]? = some v → Value.okWide Try.prog W .any base t v := hval0
  have hW' := hW
  obtain ⟨p, q, hA0, hV, rfl, hfz, hnd⟩ := hW
  have hA : DataW.TrodAll enc Try.prog W 0 (fun _ => true) true Try.f12.params.toList args.toList ds p := hA0
  rw [Try.params12] at hA hval
  obtain ⟨v0, vs0, d0, ds0, p0, q0, hargs, rfl, rfl, h0, r0⟩ := trodAll_cons hA
  obtain ⟨v1, vs1, d1, ds1, p1, q1, rfl, rfl, rfl, h1, r1⟩ := trodAll_cons r0
  obtain ⟨rfl, rfl, rfl⟩ := trodAll_nil r1
  obtain rfl : args = #[v0, v1] := by cases args; simp_all
  obtain ⟨rfl, rfl⟩ := trodVars_none hV
  have t0 := h0
  have lt0 : ∀ x ∈ p0, x.block < W.heap.size := by obtain ⟨m, hm⟩ := t0; exact DataW.trod_lt m _ _ _ hm
  have t1 := h1
  have lt1 : ∀ x ∈ p1, x.block < W.heap.size := by obtain ⟨m, hm⟩ := t1; exact DataW.trod_lt m _ _ _ hm
  obtain ⟨a0, rfl, k0⟩ := open_clk Try.underlying28 Try.underlying3 (by kernel_rfl) (by kernel_rfl) (hval 0 28 v0 rfl rfl) h0
  obtain ⟨a1, rfl, k1⟩ := open_clk Try.underlying28 Try.underlying3 (by kernel_rfl) (by kernel_rfl) (hval 1 28 v1 rfl rfl) h1
  clear hA0 hval0
  refine (walk a0 k0 a1 k1 W).mono fun e W' ⟨he, bel⟩ => ?_
  subst he
  exact ⟨_, rfl, _, _, _, [], _, [], hW', trodAll_mk1 (shut_bool Try.underlying4 _), (trodAll_cons_mk (Below.trod laidOut (by kernel_rfl) (of_decide_eq_true (by kernel_rfl)) t0 bel lt0) (trodAll_cons_mk (Below.trod laidOut (by kernel_rfl) (of_decide_eq_true (by kernel_rfl)) t1 bel lt1) trodAll_mk0)), rfl, bel.frame _, fun h => by cases h⟩

theorem over : Rows.clockKnownRow.holds Try.pinned (OpenSpec.ofChange Rows.clockKnownSpec) :=
  OpenClaim.holds_of_wide 12 Try.f12 rfl rfl rfl rfl rfl rfl rfl ⟨rfl, rfl, rfl, rfl, rfl⟩ rfl rfl rfl rfl rfl (by kernel_rfl) Try.func12 (by kernel_rfl)
    (of_decide_eq_true (by kernel_rfl)) (by unfold Func.isWrapper; first | (rw [if_pos (by decide +kernel)]; kernel_rfl) | (rw [if_neg (by decide +kernel)]; exact ⟨rfl, rfl⟩))
    (fun os started H enc _ => lifted os started H enc)

theorem proved : Rows.ClockKnownSaid := over
#print axioms proved
end Go.Proofs.Ytcndebndmibdmaa.LClockKnown
