/- 'deadheatlaw.RingFinds' returns true for every input and leaves its argument as it is. No condition. -/
import Derived.Test.YtoaehoildnanpaaRgC
import Derived.Test.YtoaehoildnanpaaRgY
set_option linter.all false
set_option maxRecDepth 100000
namespace Go.Proofs.Ytoaehoildnanpaa.LRingFinds
open Go Go.ChangeShapes Go.WideShapes Go.ChangeAt Go.RowKit

set_option maxHeartbeats 8000000 in
theorem walkH (HR : RingC) (W : World) (A : Option Addr) (n c : Nat) (l : List (Int × Int)) (s : SlQ W A n l) (m : n ≤ c) (x : c ≤ maxLen) :
    Calls Try.prog 4 #[.slice A n c] W fun e w' => e = .returned (.bool true) ∧ Below W.heap.size W w' := by
  have HM := Lib.hid (And.intro m x)
  have HL := Lib.hid s
  have HRC := Lib.hid HR
  clear m x s HR
  go_enter Try.func4, Try.ntmps4
  go_wp2_with fail
  refine (HRC.out A n c l W HL.out HM.out.1 HM.out.2).mono ?_
  rintro e w1 ⟨v1, r1, c1, rfl, hB1, hs1, hb1⟩
  have HB1 := Lib.hid hB1
  have HS1 := Lib.hid hs1
  have HW1 := Lib.hid (Bel.of hb1)
  clear hB1 hs1 hb1
  go_wp2_with fail
  refine (refring_any A n c l w1 (HL.out.bel HW1.out) (Nat.le_trans HM.out.1 HM.out.2)).mono ?_
  rintro e w2 ⟨v2, r2, c2, rfl, hB2, ho2, hb2⟩
  obtain ⟨rfl, rfl⟩ := ringB_uniq HB1.out (ringA_ok hB2)
  have HS2 := Lib.hid (own_int ho2)
  have HB2 := Lib.hid (Bel.of hb2)
  have HW2 := Lib.hid (HW1.out.call hb2)
  have HX := Lib.hid (Box.new w2 (qrc [(2, 2)]).toArray 31)
  have HW3 := Lib.hid (HW2.out.alloc (.cells (qrc [(2, 2)]).toArray 31))
  have HB3 := Lib.hid ((Bel.refl w2).alloc (.cells (qrc [(2, 2)]).toArray 31))
  clear hB2 ho2 hb2
  go_wp2_with fail
  refine (HRC.out (some ⟨w2.heap.size, 0, none⟩) 1 1 [(2, 2)] _ (SlQ.box HX.out 1 rfl) (by omega) (by simp [maxLen])).mono ?_
  rintro e w4 ⟨v4, r4, c4, rfl, hB4, hs4, hb4⟩
  obtain ⟨rfl, rfl⟩ := ring_two hB4
  have HS4 := Lib.hid hs4
  have HB4 := Lib.hid (HB3.out.trans (Bel.of hb4))
  have HW4 := Lib.hid (HW3.out.call hb4)
  clear hB4 hs4 hb4
  go_wp2_with fail
  refine (eqint_any _ _ (toI r1) (toI r1) w4 ((HS1.out.bel HB2.out).bel HB4.out) (HS2.out.bel HB4.out)).mono ?_
  rintro e w5 ⟨rfl, rfl⟩
  have HE := Lib.hid (show (toI r1 == toI r1) = true by simp)
  rw [HE.out]
  have HX5 := Lib.hid (SlI.lit (Box.new w4 (ints [2]) 3) 1 rfl (by simp [maxLen]) 1)
  have HW5 := Lib.hid (HW4.out.alloc (.cells (ints [2]) 3))
  have HB5 := Lib.hid ((Bel.refl w4).alloc (.cells (ints [2]) 3))
  go_wp2_with fail
  refine (eqint_any _ _ (toI [2]) [2] _ (HS4.out.bel HB5.out) HX5.out).mono ?_
  rintro e w6 ⟨rfl, rfl⟩
  have HE2 := Lib.hid (show (toI [2] == [2]) = true by decide)
  rw [HE2.out]
  go_wp2
  go_ret
  exact ⟨rfl, HW5.out⟩
theorem walk (W : World) (A : Option Addr) (n c : Nat) (l : List (Int × Int)) (s : SlQ W A n l) (m : n ≤ c) (x : c ≤ maxLen) (_g : ∀ e ∈ l, QrOk e) :
    Calls Try.prog 4 #[.slice A n c] W fun e w' => e = .returned (.bool true) ∧ Below W.heap.size W w' := walkH ring_any W A n c l s m x
set_option maxRecDepth 100000 in
theorem lifted (os : Os) (started : os.Started) (H : Type) (enc : TypeId × Value → H) :
    ReturnsInHanded {} Try.checked os 4 .any (Rows.ringFindsSpec.pre6 enc Try.prog Try.f4 Rows.ringFindsRow.domain false) (Rows.ringFindsSpec.post enc Try.prog Try.f4 false true false false) := by
  refine returnsInHanded_of_change_sized (C := Try.checked) own started (by kernel_rfl) Try.func4
    (ChangeSpec.witness6 (enc := enc) (C := Try.checked) false ⟨#[], #[.slice none 0 0], []⟩ 8 (by kernel_rfl) (by kernel_rfl) (by kernel_rfl) (by kernel_rfl)) ?_
  intro W base args ds gs before hval0 hW hcnd hsz0 _
  have hsz : (DataW.weightsEach Try.prog (Try.f4.params.toList ++ Rows.ringFindsSpec.plain.varTypes Try.prog) (ds ++ gs)).all (· ≤ reachBytes) = true := hsz0
  clear hsz0
  have hval : ∀ (j : Nat) t v, Try.f4.params[j]? = some t → args[j]? = some v → Value.okWide Try.prog W .any base t v := hval0
  have hW' := hW
  obtain ⟨p, q, hA0, hV, rfl, hfz, hnd⟩ := hW
  have hA : DataW.TrodAll enc Try.prog W 0 (fun _ => true) true Try.f4.params.toList args.toList ds p := hA0
  rw [Try.params4] at hA hval hsz
  obtain ⟨v0, vs0, d0, ds0, p0, q0, hargs, rfl, rfl, h0, r0⟩ := trodAll_cons hA
  obtain ⟨rfl, rfl, rfl⟩ := trodAll_nil r0
  obtain rfl : args = #[v0] := by cases args; simp_all
  obtain ⟨rfl, rfl⟩ := trodVars_none hV
  have t0 := h0
  have lt0 : ∀ x ∈ p0, x.block < W.heap.size := by obtain ⟨m, hm⟩ := t0; exact DataW.trod_lt m _ _ _ hm
  obtain ⟨A0, n0, c0, l0, rfl, s0, m0, x0, g0, z0⟩ := open_prs Try.underlying23 Try.underlying31 ⟨rfl, rfl⟩ (by kernel_rfl) (by kernel_rfl) Try.underlying3 (hval 0 23 v0 rfl rfl) h0
  have y0 := reach_sl hsz (j := 0) rfl rfl Try.underlying23 (b := 16) (by kernel_rfl) z0
  clear hA0 hval0
  refine (walk W A0 n0 c0 l0 s0 m0 x0 g0).mono fun e W' ⟨he, bel⟩ => ?_
  subst he
  exact ⟨_, rfl, _, _, _, [], _, [], hW', trodAll_mk1 (shut_bool Try.underlying4 _), (trodAll_cons_mk (Below.trod laidOut (by kernel_rfl) (of_decide_eq_true (by kernel_rfl)) t0 bel lt0) trodAll_mk0), rfl, bel.frame _, fun h => by cases h⟩

theorem over : Rows.ringFindsRow.holds Try.pinned (OpenSpec.ofChange Rows.ringFindsSpec) :=
  OpenClaim.holds_of_wide 4 Try.f4 rfl rfl rfl rfl rfl rfl rfl ⟨rfl, rfl, rfl, rfl, rfl⟩ rfl rfl rfl rfl rfl (by kernel_rfl) Try.func4 (by kernel_rfl)
    (of_decide_eq_true (by kernel_rfl)) (by unfold Func.isWrapper; first | (rw [if_pos (by decide +kernel)]; kernel_rfl) | (rw [if_neg (by decide +kernel)]; exact ⟨rfl, rfl⟩))
    (fun os started H enc _ => lifted os started H enc)

theorem proved : Rows.RingFindsSaid := over
#print axioms proved
end Go.Proofs.Ytoaehoildnanpaa.LRingFinds
