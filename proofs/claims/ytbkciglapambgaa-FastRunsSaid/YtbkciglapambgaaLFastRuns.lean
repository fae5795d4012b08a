/- 'deadheatlaw.FastRuns' returns true for every input and leaves its arguments as they are. No condition. -/
import Derived.Test.YtbkciglapambgaaOpen
import Derived.Test.YtbkciglapambgaaFastC
import Derived.Test.YtbkciglapambgaaRefFaC
import Derived.Test.YtbkciglapambgaaEqFl
import Derived.Test.YtbkciglapambgaaKeepTw
import Derived.Test.YtbkciglapambgaaRefTr
set_option linter.all false
set_option maxRecDepth 100000
namespace Go.Proofs.Ytbkciglapambgaa.LFastRuns
open Go Go.ChangeShapes Go.WideShapes Go.ChangeAt Go.RowKit

set_option maxHeartbeats 4000000 in
theorem walk (W : World) (A : Option Addr) (n c : Nat) (l : List Ev) (s : Sl W A n l) (m : n ≤ c) (x : c ≤ maxLen) (g : ∀ e ∈ l, EvOk e) :
    Calls Try.prog 3 #[.slice A n c] W fun e w' => e = .returned (.bool true) ∧ Below W.heap.size W w' := by
  unfold maxLen at x
  have hw0 : Bel W W := Bel.refl _
  have HL := Lib.hid s
  have HMW := Lib.hid (show may [⟨0, 0, 0⟩] = 1 by decide +kernel)
  clear s g
  cases h1 : (may l != 0)
  · have hm : may l = 0 := by simpa using h1
    have HM := Lib.hid hm
    clear hm
    go_enter Try.func3, Try.ntmps3
    go_wp2_with fail
    refine (frun_any A n c l _ HL.out).mono ?_
    rintro e1 w1 ⟨v1, rfl, hown1, hb1⟩
    have hw1 := hw0.call hb1
    clear hb1
    obtain ⟨A1, c1, rfl, hs1, hn1, hm1⟩ := Sl.own hown1
    rw [HM.out]
    have HC1 := Lib.hid hs1
    have HQ1 := Lib.hid (And.intro hn1 hm1)
    clear hown1 hs1 hn1 hm1
    go_wp2_with fail
    refine (wrong_any _).mono ?_
    rintro e2 w2 ⟨A2, c2, rfl, hs2, hd2, hd2', hb2⟩
    have hw2 := hw1.call hb2
    replace HC1 := Lib.hid (HC1.out.bel (Bel.of hb2))
    clear hb2
    go_wp2_with fail
    refine (frun_any A2 1 c2 _ _ hs2).mono ?_
    rintro e3 w3 ⟨v3, rfl, hown3, hb3⟩
    have hw3 := hw2.call hb3
    replace HC1 := Lib.hid (HC1.out.bel (Bel.of hb3))
    clear hb3
    clear hown3 hs2 hd2 hd2'
    rw [HMW.out]
    go_wp2_with fail
    refine (rmay_any A n c l _ (HL.out.bel hw3) m x).mono ?_
    rintro e4 w4 ⟨rfl, hb4⟩
    have hw4 := hw3.call hb4
    replace HC1 := Lib.hid (HC1.out.bel (Bel.of hb4))
    clear hb4
    rw [HM.out]
    go_wp2_with fail
    refine (rfast_any A n c l _ (HL.out.bel hw4) HM.out).mono ?_
    rintro e5 w5 ⟨v5, rfl, hown5, hb5⟩
    have hw5 := hw4.call hb5
    replace HC1 := Lib.hid (HC1.out.bel (Bel.of hb5))
    clear hb5
    obtain ⟨A5, c5, rfl, hs5, hn5, hm5⟩ := Sl.own hown5
    clear hown5
    go_wp2_with fail
    refine (eqfl_any A1 A5 _ c1 _ c5 _ _ _ HC1.out hs5 HQ1.out.1 hn5 HQ1.out.2 hm5).mono ?_
    rintro e6 w6 ⟨rfl, hb6⟩
    have hw6 := hw5.call hb6
    clear hb6
    rw [decide_eq_true rfl]
    go_wp2
    go_ret
    exact ⟨rfl, hw6⟩
  · have HM := Lib.hid (show may l ≠ 0 by simpa using h1)
    go_enter Try.func3, Try.ntmps3
    go_wp2_with fail
    refine (frun_any A n c l _ HL.out).mono ?_
    rintro e1 w1 ⟨v1, rfl, hown1, hb1⟩
    have hw1 := hw0.call hb1
    clear hb1
    obtain ⟨A1, c1, rfl, hs1, hn1, hm1⟩ := Sl.own hown1
    have HF1 := Lib.hid (show (fflags l).length = 0 by rw [fflags_no HM.out]; rfl)
    rw [HF1.out]
    clear hown1 hs1 hn1 hm1
    go_wp2_with fail
    refine (wrong_any _).mono ?_
    rintro e2 w2 ⟨A2, c2, rfl, hs2, hd2, hd2', hb2⟩
    have hw2 := hw1.call hb2
    clear hb2
    go_wp2_with fail
    refine (frun_any A2 1 c2 _ _ hs2).mono ?_
    rintro e3 w3 ⟨v3, rfl, hown3, hb3⟩
    have hw3 := hw2.call hb3
    clear hb3
    clear hown3 hs2 hd2 hd2'
    rw [HMW.out]
    go_wp2_with fail
    refine (rmay_any A n c l _ (HL.out.bel hw3) m x).mono ?_
    rintro e4 w4 ⟨rfl, hb4⟩
    have hw4 := hw3.call hb4
    clear hb4
    go_wp2
    go_ret
    exact ⟨rfl, hw4⟩

set_option maxRecDepth 100000 in
theorem lifted (os : Os) (started : os.Started) (H : Type) (enc : TypeId × Value → H) :
    ReturnsInHanded {} Try.checked os 3 .any (Rows.fastRunsSpec.pre6 enc Try.prog Try.f3 Rows.fastRunsRow.domain false) (Rows.fastRunsSpec.post enc Try.prog Try.f3 false true false false) := by
  refine returnsInHanded_of_change_sized (C := Try.checked) own started (by kernel_rfl) Try.func3
    (ChangeSpec.witness6 (enc := enc) (C := Try.checked) false ⟨#[], #[.slice none 0 0], []⟩ 8 (by kernel_rfl) (by kernel_rfl) (by kernel_rfl) (by kernel_rfl)) ?_
  intro W base args ds gs before hval0 hW hcnd hsz0 _
  have hsz : (DataW.weightsEach Try.prog (Try.f3.params.toList ++ Rows.fastRunsSpec.plain.varTypes Try.prog) (ds ++ gs)).all (· ≤ reachBytes) = true := hsz0
  clear hsz0
  have hval : ∀ (j : Nat) t v, Try.f3.params[j]? = some t → args[j]? = some v → Value.okWide Try.prog W .any base t v := hval0
  have hW' := hW
  obtain ⟨p, q, hA0, hV, rfl, hfz, hnd⟩ := hW
  have hA : DataW.TrodAll enc Try.prog W 0 (fun _ => true) true Try.f3.params.toList args.toList ds p := hA0
  rw [Try.params3] at hA hval hsz
  obtain ⟨v0, vs0, d0, ds0, p0, q0, hargs, rfl, rfl, h0, r0⟩ := trodAll_cons hA
  obtain ⟨rfl, rfl, rfl⟩ := trodAll_nil r0
  obtain rfl : args = #[v0] := by cases args; simp_all
  obtain ⟨rfl, rfl⟩ := trodVars_none hV
  have t0 := h0
  have lt0 : ∀ x ∈ p0, x.block < W.heap.size := by obtain ⟨m, hm⟩ := t0; exact DataW.trod_lt m _ _ _ hm
  obtain ⟨A0, n0, c0, l0, rfl, s0, m0, x0, g0, z0⟩ := open_evs Try.underlying22 Try.underlying50 ⟨rfl, rfl, rfl⟩ (by kernel_rfl) (by kernel_rfl) Try.underlying3 (hval 0 22 v0 rfl rfl) h0
  have y0 := reach_sl hsz (j := 0) rfl rfl Try.underlying22 (b := 24) (by kernel_rfl) z0
  clear hA0 hval0
  refine (walk W A0 n0 c0 l0 s0 m0 x0 g0).mono fun e W' ⟨he, bel⟩ => ?_
  subst he
  exact ⟨_, rfl, _, _, _, [], _, [], hW', trodAll_mk1 (shut_bool Try.underlying4 _), (trodAll_cons_mk (Below.trod laidOut (by kernel_rfl) (of_decide_eq_true (by kernel_rfl)) t0 bel lt0) trodAll_mk0), rfl, bel.frame _, fun h => by cases h⟩

theorem over : Rows.fastRunsRow.holds Try.pinned (OpenSpec.ofChange Rows.fastRunsSpec) :=
  OpenClaim.holds_of_wide 3 Try.f3 rfl rfl rfl rfl rfl rfl rfl ⟨rfl, rfl, rfl, rfl, rfl⟩ rfl rfl rfl rfl rfl (by kernel_rfl) Try.func3 (by kernel_rfl)
    (of_decide_eq_true (by kernel_rfl)) (by unfold Func.isWrapper; first | (rw [if_pos (by decide +kernel)]; kernel_rfl) | (rw [if_neg (by decide +kernel)]; exact ⟨rfl, rfl⟩))
    (fun os started H enc _ => lifted os started H enc)

theorem proved : Rows.FastRunsSaid := over
#print axioms proved
end Go.Proofs.Ytbkciglapambgaa.LFastRuns
