/- 'deadheatkeep.ShrinkAgain' returns true for every input and leaves its arguments as they are. No condition. -/
import Derived.Test.YtmdpegljpdjfoaaShM
import Derived.Test.YtmdpegljpdjfoaaOpen
import Derived.Test.YtmdpegljpdjfoaaKeepSh
import Derived.Test.YtmdpegljpdjfoaaEqEv
set_option linter.all false
set_option maxRecDepth 100000
namespace Go.Proofs.Ytmdpegljpdjfoaa.LShrinkAgain
open Go Go.ChangeShapes Go.WideShapes Go.ChangeAt Go.RowKit

set_option maxHeartbeats 8000000 in
theorem walkH (HMi : MinC) (W : World) (A : Option Addr) (n c : Nat) (l : List Ev) (s : Sl W A n l) (m : n ≤ c) (x : c ≤ maxLen) (_g : ∀ e ∈ l, EvOk e) :
    Calls Try.prog 10 #[.slice A n c] W fun e w' => e = .returned (.bool true) ∧ Below W.heap.size W w' := by
  have hw0 : Bel W W := Bel.refl _
  have HL := Lib.hid s
  have HMX := Lib.hid (And.intro m x)
  have HSH := Lib.hid (fun w => shrunk_any HMi w)
  unfold MinC at HMi
  have HMC := Lib.hid HMi
  clear s m x HMi
  go_enter Try.func10, Try.ntmps10
  go_wp2_with fail
  refine (HSH.out _).mono ?_
  rintro e1 w1 ⟨rfl, hb1⟩
  have hw1 := hw0.call hb1
  clear hb1
  go_wp2_with fail
  refine (HMC.out A n c l w1 (HL.out.bel hw1.out) HMX.out.1 HMX.out.2).mono ?_
  rintro e2 w2 ⟨r, cc, hB, v, rfl, ho, hb2⟩
  obtain ⟨A2, d2, rfl, hs2, hn2, hm2⟩ := Sl.own ho
  have HW2 := Lib.hid (hw1.call hb2)
  have HS2 := Lib.hid (And.intro hs2 (And.intro hn2 hm2))
  clear hw0 hw1 ho hs2 hn2 hm2 hb2
  by_cases hcc : cc = 0
  · obtain ⟨hok, hred⟩ := minB_ok hB hcc
    have HK := Lib.hid (show MinB r r 0 from .inr (.inr ⟨hred.ok hok, hred.again, rfl⟩))
    subst hcc
    clear hB hok hred
    generalize hr : r.length = q at *
    go_wp2_with fail
    refine (HMC.out A2 q d2 r w2 HS2.out.1 HS2.out.2.1 HS2.out.2.2).mono ?_
    rintro e3 w3 ⟨r3, c3, hB3, v3, rfl, ho3, hb3⟩
    obtain ⟨rfl, rfl⟩ := minB_uniq hB3 HK.out
    obtain ⟨A3, d3, rfl, hs3, hn3, hm3⟩ := Sl.own ho3
    have HW3 := Lib.hid (HW2.out.call hb3)
    have HS3 := Lib.hid (And.intro hs3 (And.intro hn3 hm3))
    have HS4 := Lib.hid (HS2.out.1.bel hb3)
    clear hB3 ho3 hb3 hs3 hn3 hm3
    rw [hr] at *
    go_wp2_with fail
    refine (eqev_any A2 A3 q d2 q d3 _ _ w3 HS4.out HS3.out.1 HS2.out.2.1 HS3.out.2.1 HS2.out.2.2 HS3.out.2.2).mono ?_
    rintro e4 w4 ⟨rfl, hb4⟩
    rw [decide_eq_true rfl]
    have HW4 := Lib.hid (HW3.out.call hb4)
    clear hb4
    go_wp2
    go_ret
    exact ⟨rfl, HW4.out.out⟩
  · have hr := minB_no hB hcc
    subst hr
    have h9 : (cc != 0) = true := by simpa using hcc
    clear hB hcc
    go_wp2
    go_ret
    exact ⟨rfl, HW2.out.out⟩
theorem walk (W : World) (A : Option Addr) (n c : Nat) (l : List Ev) (s : Sl W A n l) (m : n ≤ c) (x : c ≤ maxLen) (_g : ∀ e ∈ l, EvOk e) :
    Calls Try.prog 10 #[.slice A n c] W fun e w' => e = .returned (.bool true) ∧ Below W.heap.size W w' := walkH min_any W A n c l s m x _g
set_option maxRecDepth 100000 in
theorem lifted (os : Os) (started : os.Started) (H : Type) (enc : TypeId × Value → H) :
    ReturnsInHanded {} Try.checked os 10 .any (Rows.shrinkAgainSpec.pre6 enc Try.prog Try.f10 Rows.shrinkAgainRow.domain false) (Rows.shrinkAgainSpec.post enc Try.prog Try.f10 false true false false) := by
  refine returnsInHanded_of_change_sized (C := Try.checked) own started (by kernel_rfl) Try.func10
    (ChangeSpec.witness6 (enc := enc) (C := Try.checked) false ⟨#[], #[.slice none 0 0], []⟩ 8 (by kernel_rfl) (by kernel_rfl) (by kernel_rfl) (by kernel_rfl)) ?_
  intro W base args ds gs before hval0 hW hcnd hsz0 _
  have hsz : (DataW.weightsEach Try.prog (Try.f10.params.toList ++ Rows.shrinkAgainSpec.plain.varTypes Try.prog) (ds ++ gs)).all (· ≤ reachBytes) = true := hsz0
  clear hsz0
  have hval : ∀ (j : Nat) t v, Try.f10.params[j]? = some t → args[j]? = some v → Value.okWide Try.prog W .any base t v := hval0
  have hW' := hW
  obtain ⟨p, q, hA0, hV, rfl, hfz, hnd⟩ := hW
  have hA : DataW.TrodAll enc Try.prog W 0 (fun _ => true) true Try.f10.params.toList args.toList ds p := hA0
  rw [Try.params10] at hA hval hsz
  obtain ⟨v0, vs0, d0, ds0, p0, q0, hargs, rfl, rfl, h0, r0⟩ := trodAll_cons hA
  obtain ⟨rfl, rfl, rfl⟩ := trodAll_nil r0
  obtain rfl : args = #[v0] := by cases args; simp_all
  obtain ⟨rfl, rfl⟩ := trodVars_none hV
  have t0 := h0
  have lt0 : ∀ x ∈ p0, x.block < W.heap.size := by obtain ⟨m, hm⟩ := t0; exact DataW.trod_lt m _ _ _ hm
  obtain ⟨A0, n0, c0, l0, rfl, s0, m0, x0, g0, z0⟩ := open_evs Try.underlying22 Try.underlying29 ⟨rfl, rfl, rfl⟩ (by kernel_rfl) (by kernel_rfl) Try.underlying3 (hval 0 22 v0 rfl rfl) h0
  have y0 := reach_sl hsz (j := 0) rfl rfl Try.underlying22 (b := 24) (by kernel_rfl) z0
  clear hA0 hval0
  refine (walk W A0 n0 c0 l0 s0 m0 x0 g0).mono fun e W' ⟨he, bel⟩ => ?_
  subst he
  exact ⟨_, rfl, _, _, _, [], _, [], hW', trodAll_mk1 (shut_bool Try.underlying4 _), (trodAll_cons_mk (Below.trod laidOut (by kernel_rfl) (of_decide_eq_true (by kernel_rfl)) t0 bel lt0) trodAll_mk0), rfl, bel.frame _, fun h => by cases h⟩

theorem over : Rows.shrinkAgainRow.holds Try.pinned (OpenSpec.ofChange Rows.shrinkAgainSpec) :=
  OpenClaim.holds_of_wide 10 Try.f10 rfl rfl rfl rfl rfl rfl rfl ⟨rfl, rfl, rfl, rfl, rfl⟩ rfl rfl rfl rfl rfl (by kernel_rfl) Try.func10 (by kernel_rfl)
    (of_decide_eq_true (by kernel_rfl)) (by unfold Func.isWrapper; first | (rw [if_pos (by decide +kernel)]; kernel_rfl) | (rw [if_neg (by decide +kernel)]; exact ⟨rfl, rfl⟩))
    (fun os started H enc _ => lifted os started H enc)

theorem proved : Rows.ShrinkAgainSaid := over
#print axioms proved
end Go.Proofs.Ytmdpegljpdjfoaa.LShrinkAgain
