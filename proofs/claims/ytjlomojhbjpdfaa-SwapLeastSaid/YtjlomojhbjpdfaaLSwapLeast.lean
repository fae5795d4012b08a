/- 'deadheatlaw.SwapLeast' returns true for every input and leaves its argument as it is. No condition. -/
import Derived.Test.YtjlomojhbjpdfaaOpen
import Derived.Test.YtjlomojhbjpdfaaSwU
import Derived.Test.YtjlomojhbjpdfaaSwS
import Derived.Test.YtjlomojhbjpdfaaSwC
import Derived.Test.YtjlomojhbjpdfaaRfL
set_option linter.all false
set_option maxRecDepth 100000
namespace Go.Proofs.Ytjlomojhbjpdfaa.LSwapLeast
open Go Go.ChangeShapes Go.WideShapes Go.ChangeAt Go.RowKit

theorem leB_bad {r : List Ev} {c : Int} (h : LeB [⟨0, 0, 0⟩] r c) : r = [] ∧ c = 1 := by
  have h1 : may [⟨0, 0, 0⟩] = 1 := by decide +kernel
  rcases h with ⟨_, h2, h3⟩ | ⟨h2, _⟩
  · exact ⟨h2, h3.trans h1⟩
  · rw [h1] at h2; cases h2
set_option maxHeartbeats 4000000 in
theorem walkH (HLe : LeastC) (W : World) (A : Option Addr) (n c : Nat) (l : List Ev) (s : Sl W A n l) (m : n ≤ c) (x : c ≤ maxLen) (_g : ∀ e ∈ l, EvOk e) :
    Calls Try.prog 5 #[.slice A n c] W fun e w' => e = .returned (.bool true) ∧ Below W.heap.size W w' := by
  have HL := Lib.hid s
  have HMX := Lib.hid (And.intro m x)
  have HLC := Lib.hid HLe
  unfold maxLen at x
  clear s HLe m
  go_enter Try.func5, Try.ntmps5
  go_wp2_with fail
  refine (HLC.out A n c l W HL.out HMX.out.1 HMX.out.2).mono ?_
  rintro e w1 ⟨r, cc, hB, A1, n1, d1, rfl, hs1, hn1, hd1, hb1⟩
  have hw1 := Bel.of hb1
  have HS1 := Lib.hid hs1
  have HD1 := Lib.hid (And.intro hn1 hd1)
  clear hs1 hn1 hd1 hb1
  go_wp2_with fail
  refine (wrong_any _).mono ?_
  rintro e2 w2 ⟨A2, c2, rfl, hs2, hd2, hd2', hb2⟩
  have hw2 := hw1.call hb2
  replace HS1 := Lib.hid (HS1.out.bel (Bel.of hb2))
  clear hb2
  go_wp2_with fail
  refine (HLC.out A2 1 c2 _ w2 hs2 hd2 (by unfold maxLen; omega)).mono ?_
  rintro e w3 ⟨r3, c3, hB3, A3, n3, d3, rfl, hs3, hn3, hd3, hb3⟩
  obtain ⟨rfl, rfl⟩ := leB_bad hB3
  have hw3 := hw2.call hb3
  replace HS1 := Lib.hid (HS1.out.bel (Bel.of hb3))
  clear hB3 hs2 hd2 hd2' hs3 hn3 hd3 hb3
  go_wp2_with fail
  refine (rmay_any A n c l _ (HL.out.bel hw3) HMX.out.1 x).mono ?_
  rintro e4 w4 ⟨rfl, hb4⟩
  have hw4 := hw3.call hb4
  have HW4 := Lib.hid hw4
  replace HS1 := Lib.hid (HS1.out.bel (Bel.of hb4))
  clear hw1 hw2 hw3 hw4 hb4
  rcases hB with ⟨h1, rfl, rfl⟩ | ⟨h1, rfl, rfl⟩
  · have hn0 : n1 = 0 := HS1.out.1.symm
    subst hn0
    have h2 : (may l != 0) = true := by simpa using h1
    clear h1
    go_wp2
    go_ret
    exact ⟨rfl, HW4.out⟩
  · have HM := Lib.hid h1
    rw [HM.out]
    clear h1
    go_wp2_with fail
    refine (refleast_any A n c l _ (HL.out.bel HW4.out) HMX.out.1 HMX.out.2 HM.out).mono ?_
    rintro e5 w5 ⟨v5, rfl, ho5, hb5⟩
    obtain ⟨A5, c5, rfl, hs5, hn5, hm5⟩ := Sl.own ho5
    have HW5 := Lib.hid (HW4.out.call hb5)
    replace HS1 := Lib.hid (HS1.out.bel (Bel.of hb5))
    clear ho5 hb5
    go_wp2_with fail
    refine (eqev_any A1 A5 _ d1 _ c5 _ _ _ HS1.out hs5 HD1.out.1 hn5 HD1.out.2 hm5).mono ?_
    rintro e6 w6 ⟨rfl, hb6⟩
    rw [decide_eq_true rfl]
    have HW6 := Lib.hid (HW5.out.call hb6)
    clear hb6
    go_wp2
    go_ret
    exact ⟨rfl, HW6.out⟩
theorem walk (W : World) (A : Option Addr) (n c : Nat) (l : List Ev) (s : Sl W A n l) (m : n ≤ c) (x : c ≤ maxLen) (g : ∀ e ∈ l, EvOk e) :
    Calls Try.prog 5 #[.slice A n c] W fun e w' => e = .returned (.bool true) ∧ Below W.heap.size W w' := walkH least_any W A n c l s m x g
set_option maxRecDepth 100000 in
theorem lifted (os : Os) (started : os.Started) (H : Type) (enc : TypeId × Value → H) :
    ReturnsInHanded {} Try.checked os 5 .any (Rows.swapLeastSpec.pre6 enc Try.prog Try.f5 Rows.swapLeastRow.domain false) (Rows.swapLeastSpec.post enc Try.prog Try.f5 false true false false) := by
  refine returnsInHanded_of_change_sized (C := Try.checked) own started (by kernel_rfl) Try.func5
    (ChangeSpec.witness6 (enc := enc) (C := Try.checked) false ⟨#[], #[.slice none 0 0], []⟩ 8 (by kernel_rfl) (by kernel_rfl) (by kernel_rfl) (by kernel_rfl)) ?_
  intro W base args ds gs before hval0 hW hcnd hsz0 _
  have hsz : (DataW.weightsEach Try.prog (Try.f5.params.toList ++ Rows.swapLeastSpec.plain.varTypes Try.prog) (ds ++ gs)).all (· ≤ reachBytes) = true := hsz0
  clear hsz0
  have hval : ∀ (j : Nat) t v, Try.f5.params[j]? = some t → args[j]? = some v → Value.okWide Try.prog W .any base t v := hval0
  have hW' := hW
  obtain ⟨p, q, hA0, hV, rfl, hfz, hnd⟩ := hW
  have hA : DataW.TrodAll enc Try.prog W 0 (fun _ => true) true Try.f5.params.toList args.toList ds p := hA0
  rw [Try.params5] at hA hval hsz
  obtain ⟨v0, vs0, d0, ds0, p0, q0, hargs, rfl, rfl, h0, r0⟩ := trodAll_cons hA
  obtain ⟨rfl, rfl, rfl⟩ := trodAll_nil r0
  obtain rfl : args = #[v0] := by cases args; simp_all
  obtain ⟨rfl, rfl⟩ := trodVars_none hV
  have t0 := h0
  have lt0 : ∀ x ∈ p0, x.block < W.heap.size := by obtain ⟨m, hm⟩ := t0; exact DataW.trod_lt m _ _ _ hm
  obtain ⟨A0, n0, c0, l0, rfl, s0, m0, x0, g0, z0⟩ := open_evs Try.underlying25 Try.underlying23 ⟨rfl, rfl, rfl⟩ (by kernel_rfl) (by kernel_rfl) Try.underlying3 (hval 0 25 v0 rfl rfl) h0
  have y0 := reach_sl hsz (j := 0) rfl rfl Try.underlying25 (b := 24) (by kernel_rfl) z0
  clear hA0 hval0
  refine (walk W A0 n0 c0 l0 s0 m0 x0 g0).mono fun e W' ⟨he, bel⟩ => ?_
  subst he
  exact ⟨_, rfl, _, _, _, [], _, [], hW', trodAll_mk1 (shut_bool Try.underlying4 _), (trodAll_cons_mk (Below.trod laidOut (by kernel_rfl) (of_decide_eq_true (by kernel_rfl)) t0 bel lt0) trodAll_mk0), rfl, bel.frame _, fun h => by cases h⟩

theorem over : Rows.swapLeastRow.holds Try.pinned (OpenSpec.ofChange Rows.swapLeastSpec) :=
  OpenClaim.holds_of_wide 5 Try.f5 rfl rfl rfl rfl rfl rfl rfl ⟨rfl, rfl, rfl, rfl, rfl⟩ rfl rfl rfl rfl rfl (by kernel_rfl) Try.func5 (by kernel_rfl)
    (of_decide_eq_true (by kernel_rfl)) (by unfold Func.isWrapper; first | (rw [if_pos (by decide +kernel)]; kernel_rfl) | (rw [if_neg (by decide +kernel)]; exact ⟨rfl, rfl⟩))
    (fun os started H enc _ => lifted os started H enc)

theorem proved : Rows.SwapLeastSaid := over
#print axioms proved
end Go.Proofs.Ytjlomojhbjpdfaa.LSwapLeast
