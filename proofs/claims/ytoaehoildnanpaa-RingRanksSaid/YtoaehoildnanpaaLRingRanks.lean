/- 'deadheatlaw.RingRanks' returns true for every input and leaves its argument as it is. No condition. -/
import Derived.Test.YtoaehoildnanpaaRgC
import Derived.Test.YtoaehoildnanpaaRgK
set_option linter.all false
set_option maxRecDepth 100000
namespace Go.Proofs.Ytoaehoildnanpaa.LRingRanks
open Go Go.ChangeShapes Go.WideShapes Go.ChangeAt Go.RowKit

set_option maxHeartbeats 8000000 in
theorem walkH (HR : RankC) (W : World) (A : Option Addr) (n c : Nat) (l : List (Int × Int)) (s : SlQ W A n l) (m : n ≤ c) (x : c ≤ maxLen) :
    Calls Try.prog 5 #[.slice A n c] W fun e w' => e = .returned (.bool true) ∧ Below W.heap.size W w' := by
  have HM := Lib.hid (And.intro m x)
  have HL := Lib.hid s
  have HRC := Lib.hid HR
  clear m x s HR
  go_enter Try.func5, Try.ntmps5
  go_wp2_with fail
  refine (HRC.out A n c l W HL.out HM.out.1 HM.out.2).mono ?_
  rintro e w1 ⟨v1, r1, c1, rfl, hB1, hs1, hb1⟩
  have HB1 := Lib.hid hB1
  have HS1 := Lib.hid hs1
  have HW1 := Lib.hid (Bel.of hb1)
  clear hB1 hs1 hb1
  go_wp2_with fail
  refine (refrank_any A n c l w1 (HL.out.bel HW1.out) (Nat.le_trans HM.out.1 HM.out.2)).mono ?_
  rintro e w2 ⟨v2, r2, c2, rfl, hB2, ho2, hb2⟩
  obtain ⟨rfl, rfl⟩ := rankB_uniq HB1.out (rankA_ok hB2)
  have HS2 := Lib.hid (own_int ho2)
  have HB2 := Lib.hid (Bel.of hb2)
  have HW2 := Lib.hid (HW1.out.call hb2)
  clear hB2 ho2 hb2
  go_wp2_with fail
  refine (eqint_any _ _ (toI r1) (toI r1) w2 (HS1.out.bel HB2.out) HS2.out).mono ?_
  rintro e w5 ⟨rfl, rfl⟩
  have HE := Lib.hid (show (toI r1 == toI r1) = true by simp)
  rw [HE.out]
  go_wp2
  go_ret
  exact ⟨rfl, HW2.out⟩
theorem walk (W : World) (A : Option Addr) (n c : Nat) (l : List (Int × Int)) (s : SlQ W A n l) (m : n ≤ c) (x : c ≤ maxLen) (_g : ∀ e ∈ l, QrOk e) :
    Calls Try.prog 5 #[.slice A n c] W fun e w' => e = .returned (.bool true) ∧ Below W.heap.size W w' := walkH rank_any W A n c l s m x
set_option maxRecDepth 100000 in
theorem lifted (os : Os) (started : os.Started) (H : Type) (enc : TypeId × Value → H) :
    ReturnsInHanded {} Try.checked os 5 .any (Rows.ringRanksSpec.pre6 enc Try.prog Try.f5 Rows.ringRanksRow.domain false) (Rows.ringRanksSpec.post enc Try.prog Try.f5 false true false false) := by
  refine returnsInHanded_of_change_sized (C := Try.checked) own started (by kernel_rfl) Try.func5
    (ChangeSpec.witness6 (enc := enc) (C := Try.checked) false ⟨#[], #[.slice none 0 0], []⟩ 8 (by kernel_rfl) (by kernel_rfl) (by kernel_rfl) (by kernel_rfl)) ?_
  intro W base args ds gs before hval0 hW hcnd hsz0 _
  have hsz : (DataW.weightsEach Try.prog (Try.f5.params.toList ++ Rows.ringRanksSpec.plain.varTypes Try.prog) (ds ++ gs)).all (· ≤ reachBytes) = true := hsz0
  clear hsz0
  have hval : ∀ (j : Nat) t v, Try.f5.params[j]? = some t → args[j]? = some v → Value.okWide Try.prog W .any base t v := hval0
  have hW' := hW
  obtain ⟨p, q, hA0, hV, rfl, hfz, hnd⟩ := hW
  have hA : DataW.TrodAll enc Try.prog W 0 (fun _ => true) true Try.f5.params.toList args.toList ds p := hA0
  rw [Try.params5] at hA hval hsz
  obtain ⟨v0, vs0, d0, ds0, p0, q0, hargs, rfl, rfl, h0, r0⟩ := trodAll_cons hA
  obtain ⟨rfl, rfl, rfl⟩ := trodAll_nil r0
  obtain rfl : args = #[v0] := by cases args; simp_all
  obtain ⟨rfl, rfl⟩ := trodVars_none hV
  have t0 := h0
  have lt0 : ∀ x ∈ p0, x.block < W.heap.size := by obtain ⟨m, hm⟩ := t0; exact DataW.trod_lt m _ _ _ hm
  obtain ⟨A0, n0, c0, l0, rfl, s0, m0, x0, g0, z0⟩ := open_prs Try.underlying23 Try.underlying31 ⟨rfl, rfl⟩ (by kernel_rfl) (by kernel_rfl) Try.underlying3 (hval 0 23 v0 rfl rfl) h0
  have y0 := reach_sl hsz (j := 0) rfl rfl Try.underlying23 (b := 16) (by kernel_rfl) z0
  clear hA0 hval0
  refine (walk W A0 n0 c0 l0 s0 m0 x0 g0).mono fun e W' ⟨he, bel⟩ => ?_
  subst he
  exact ⟨_, rfl, _, _, _, [], _, [], hW', trodAll_mk1 (shut_bool Try.underlying4 _), (trodAll_cons_mk (Below.trod laidOut (by kernel_rfl) (of_decide_eq_true (by kernel_rfl)) t0 bel lt0) trodAll_mk0), rfl, bel.frame _, fun h => by cases h⟩

theorem over : Rows.ringRanksRow.holds Try.pinned (OpenSpec.ofChange Rows.ringRanksSpec) :=
  OpenClaim.holds_of_wide 5 Try.f5 rfl rfl rfl rfl rfl rfl rfl ⟨rfl, rfl, rfl, rfl, rfl⟩ rfl rfl rfl rfl rfl (by kernel_rfl) Try.func5 (by kernel_rfl)
    (of_decide_eq_true (by kernel_rfl)) (by unfold Func.isWrapper; first | (rw [if_pos (by decide +kernel)]; kernel_rfl) | (rw [if_neg (by decide +kernel)]; exact ⟨rfl, rfl⟩))
    (fun os started H enc _ => lifted os started H enc)

theorem proved : Rows.RingRanksSaid := over
#print axioms proved
end Go.Proofs.Ytoaehoildnanpaa.LRingRanks
