/- 'deadheatlaw.FastSlow' returns true for every input and leaves its arguments as they are. No condition. -/
import Derived.Test.YtbkciglapambgaaOpen
import Derived.Test.YtbkciglapambgaaFastC
import Derived.Test.YtbkciglapambgaaRefFaC
import Derived.Test.YtbkciglapambgaaKeepTw
import Derived.Test.YtbkciglapambgaaRefTr
set_option linter.all false
set_option maxRecDepth 100000
namespace Go.Proofs.Ytbkciglapambgaa.LFastSlow
open Go Go.ChangeShapes Go.WideShapes Go.ChangeAt Go.RowKit

set_option maxHeartbeats 4000000 in
theorem walk (W : World) (A : Option Addr) (n c : Nat) (l : List Ev) (s : Sl W A n l) (m : n ≤ c) (x : c ≤ maxLen) (g : ∀ e ∈ l, EvOk e) :
    Calls Try.prog 4 #[.slice A n c] W fun e w' => e = .returned (.bool true) ∧ Below W.heap.size W w' := by
  unfold maxLen at x
  have hw0 : Bel W W := Bel.refl _
  have HL := Lib.hid s
  have HMW := Lib.hid (show may [⟨0, 0, 0⟩] = 1 by decide +kernel)
  clear s g
  cases h1 : (may l != 0)
  · have hm : may l = 0 := by simpa using h1
    have HM := Lib.hid hm
    have HS := Lib.hid (show fslow l = slT l l.length by unfold fslow; rw [if_pos hm])
    clear hm
    go_enter Try.func4, Try.ntmps4
    go_wp2_with fail
    refine (fslow_any A n c l _ HL.out).mono ?_
    rintro e1 w1 ⟨rfl, hb1⟩
    have hw1 := hw0.call hb1
    clear hb1
    rw [HM.out, HS.out]
    go_wp2_with fail
    refine (wrong_any _).mono ?_
    rintro e2 w2 ⟨A2, c2, rfl, hs2, hd2, hd2', hb2⟩
    have hw2 := hw1.call hb2
    clear hb2
    go_wp2_with fail
    refine (frun_any A2 1 c2 _ _ hs2).mono ?_
    rintro e3 w3 ⟨v3, rfl, hown3, hb3⟩
    have hw3 := hw2.call hb3
    clear hb3
    clear hown3 hs2 hd2 hd2'
    rw [HMW.out]
    go_wp2_with fail
    refine (rmay_any A n c l _ (HL.out.bel hw3) m x).mono ?_
    rintro e4 w4 ⟨rfl, hb4⟩
    have hw4 := hw3.call hb4
    clear hb4
    rw [HM.out]
    go_wp2_with fail
    refine (rfast_any A n c l _ (HL.out.bel hw4) HM.out).mono ?_
    rintro e5 w5 ⟨v5, rfl, hown5, hb5⟩
    have hw5 := hw4.call hb5
    clear hb5
    clear hown5
    have hq : ((slT l l.length : Int) == slT l l.length) = true := by simp
    go_wp2
    go_ret
    exact ⟨rfl, hw5⟩
  · have HM := Lib.hid (show may l ≠ 0 by simpa using h1)
    have HS := Lib.hid (show fslow l = 0 by unfold fslow; rw [if_neg HM.out])
    go_enter Try.func4, Try.ntmps4
    go_wp2_with fail
    refine (fslow_any A n c l _ HL.out).mono ?_
    rintro e1 w1 ⟨rfl, hb1⟩
    have hw1 := hw0.call hb1
    clear hb1
    rw [HS.out]
    go_wp2_with fail
    refine (wrong_any _).mono ?_
    rintro e2 w2 ⟨A2, c2, rfl, hs2, hd2, hd2', hb2⟩
    have hw2 := hw1.call hb2
    clear hb2
    go_wp2_with fail
    refine (frun_any A2 1 c2 _ _ hs2).mono ?_
    rintro e3 w3 ⟨v3, rfl, hown3, hb3⟩
    have hw3 := hw2.call hb3
    clear hb3
    clear hown3 hs2 hd2 hd2'
    rw [HMW.out]
    go_wp2_with fail
    refine (rmay_any A n c l _ (HL.out.bel hw3) m x).mono ?_
    rintro e4 w4 ⟨rfl, hb4⟩
    have hw4 := hw3.call hb4
    clear hb4
    go_wp2
    go_ret
    exact ⟨rfl, hw4⟩

set_option maxRecDepth 100000 in
theorem lifted (os : Os) (started : os.Started) (H : Type) (enc : TypeId × Value → H) :
    ReturnsInHanded {} Try.checked os 4 .any (Rows.fastSlowSpec.pre6 enc Try.prog Try.f4 Rows.fastSlowRow.domain false) (Rows.fastSlowSpec.post enc Try.prog Try.f4 false true false false) := by
  refine returnsInHanded_of_change_sized (C := Try.checked) own started (by kernel_rfl) Try.func4
    (ChangeSpec.witness6 (enc := enc) (C := Try.checked) false ⟨#[], #[.slice none 0 0], []⟩ 8 (by kernel_rfl) (by kernel_rfl) (by kernel_rfl) (by kernel_rfl)) ?_
  intro W base args ds gs before hval0 hW hcnd hsz0 _
  have hsz : (DataW.weightsEach Try.prog (Try.f4.params.toList ++ Rows.fastSlowSpec.plain.varTypes Try.prog) (ds ++ gs)).all (· ≤ reachBytes) = true := hsz0
  clear hsz0
  have hval : ∀ (j : Nat) t v, Try.f4.params[j]? = some t → args[j]? = some v → Value.okWide Try.prog W .any base t v := hval0
  have hW' := hW
  obtain ⟨p, q, hA0, hV, rfl, hfz, hnd⟩ := hW
  have hA : DataW.TrodAll enc Try.prog W 0 (fun _ => true) true Try.f4.params.toList args.toList ds p := hA0
  rw [Try.params4] at hA hval hsz
  obtain ⟨v0, vs0, d0, ds0, p0, q0, hargs, rfl, rfl, h0, r0⟩ := trodAll_cons hA
  obtain ⟨rfl, rfl, rfl⟩ := trodAll_nil r0
  obtain rfl : args = #[v0] := by cases args; simp_all
  obtain ⟨rfl, rfl⟩ := trodVars_none hV
  have t0 := h0
  have lt0 : ∀ x ∈ p0, x.block < W.heap.size := by obtain ⟨m, hm⟩ := t0; exact DataW.trod_lt m _ _ _ hm
  obtain ⟨A0, n0, c0, l0, rfl, s0, m0, x0, g0, z0⟩ := open_evs Try.underlying22 Try.underlying50 ⟨rfl, rfl, rfl⟩ (by kernel_rfl) (by kernel_rfl) Try.underlying3 (hval 0 22 v0 rfl rfl) h0
  have y0 := reach_sl hsz (j := 0) rfl rfl Try.underlying22 (b := 24) (by kernel_rfl) z0
  clear hA0 hval0
  refine (walk W A0 n0 c0 l0 s0 m0 x0 g0).mono fun e W' ⟨he, bel⟩ => ?_
  subst he
  exact ⟨_, rfl, _, _, _, [], _, [], hW', trodAll_mk1 (shut_bool Try.underlying4 _), (trodAll_cons_mk (Below.trod laidOut (by kernel_rfl) (of_decide_eq_true (by kernel_rfl)) t0 bel lt0) trodAll_mk0), rfl, bel.frame _, fun h => by cases h⟩

theorem over : Rows.fastSlowRow.holds Try.pinned (OpenSpec.ofChange Rows.fastSlowSpec) :=
  OpenClaim.holds_of_wide 4 Try.f4 rfl rfl rfl rfl rfl rfl rfl ⟨rfl, rfl, rfl, rfl, rfl⟩ rfl rfl rfl rfl rfl (by kernel_rfl) Try.func4 (by kernel_rfl)
    (of_decide_eq_true (by kernel_rfl)) (by unfold Func.isWrapper; first | (rw [if_pos (by decide +kernel)]; kernel_rfl) | (rw [if_neg (by decide +kernel)]; exact ⟨rfl, rfl⟩))
    (fun os started H enc _ => lifted os started H enc)

theorem proved : Rows.FastSlowSaid := over
#print axioms proved
end Go.Proofs.Ytbkciglapambgaa.LFastSlow
