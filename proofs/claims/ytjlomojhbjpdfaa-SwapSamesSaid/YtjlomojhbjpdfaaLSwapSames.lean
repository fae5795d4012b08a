/- 'deadheatlaw.SwapSames' returns true for every input and leaves its arguments as they are. No condition. -/
import Derived.Test.YtjlomojhbjpdfaaOpen
import Derived.Test.YtjlomojhbjpdfaaSwU
import Derived.Test.YtjlomojhbjpdfaaSwS
import Derived.Test.YtjlomojhbjpdfaaSwC
import Derived.Test.YtjlomojhbjpdfaaRfL
set_option linter.all false
set_option maxRecDepth 100000
namespace Go.Proofs.Ytjlomojhbjpdfaa.LSwapSames
open Go Go.ChangeShapes Go.WideShapes Go.ChangeAt Go.RowKit

theorem sl_nil (w : World) : Sl w none 0 [] := ⟨rfl, fun h => absurd h (by omega)⟩
theorem same_nil : sameB [] [] = true ∧ sameE [] [] = 0 := ⟨by decide +kernel, by decide +kernel⟩
theorem sameB_no' {a b : List Ev} (h : sameE a b ≠ 0) : sameB a b = false := by unfold sameB; rw [decide_eq_false h]; rfl
set_option maxHeartbeats 4000000 in
theorem walkH (HSa : SameC) (W : World) (A : Option Addr) (n c : Nat) (l : List Ev) (s : Sl W A n l) (m : n ≤ c) (x : c ≤ maxLen) (_g : ∀ e ∈ l, EvOk e)
    (A1 : Option Addr) (n1 c1 : Nat) (l1 : List Ev) (s1 : Sl W A1 n1 l1) (m1 : n1 ≤ c1) (x1 : c1 ≤ maxLen) (_g1 : ∀ e ∈ l1, EvOk e) :
    Calls Try.prog 6 #[.slice A n c, .slice A1 n1 c1] W fun e w' => e = .returned (.bool true) ∧ Below W.heap.size W w' := by
  have hw0 : Bel W W := Bel.refl _
  have HL := Lib.hid s
  have HL1 := Lib.hid s1
  have HMX := Lib.hid (And.intro m x)
  have HMY := Lib.hid (And.intro m1 x1)
  have HSM := Lib.hid HSa
  have HNN := Lib.hid same_nil
  have xx : c ≤ 9223372036854775807 := by unfold maxLen at x; omega
  have yy : c1 ≤ 9223372036854775807 := by unfold maxLen at x1; omega
  clear s m x HSa s1 m1 x1
  by_cases h1 : may l = 0
  · have HM := Lib.hid h1
    have hE : sameE l l1 = may l1 := by unfold sameE; rw [if_pos h1]
    by_cases h2 : may l1 = 0
    · have HM1 := Lib.hid h2
      have HSB := Lib.hid (show sameB l l1 = decide (leastL l = leastL l1) by unfold sameB; rw [hE, decide_eq_true h2]; rfl)
      have HE := Lib.hid (hE.trans h2)
      clear h1 h2 hE
      go_enter Try.func6, Try.ntmps6
      go_wp2_with fail
      refine (HSM.out A n c l A1 n1 c1 l1 _ HL.out HMX.out.1 HMX.out.2 HL1.out HMY.out.1 HMY.out.2).mono ?_
      rintro e1 w1 ⟨rfl, hb1⟩
      have hw1 := hw0.call hb1
      clear hb1
      rw [HE.out, HSB.out]
      go_wp2_with fail
      refine (rmay_any A n c l _ (HL.out.bel hw1) HMX.out.1 xx).mono ?_
      rintro e2 w2 ⟨rfl, hb2⟩
      rw [HM.out]
      have hw2 := hw1.call hb2
      clear hb2
      go_wp2_with fail
      refine (rmay_any A1 n1 c1 l1 _ (HL1.out.bel hw2) HMY.out.1 yy).mono ?_
      rintro e3 w3 ⟨rfl, hb3⟩
      rw [HM1.out]
      have hw3 := hw2.call hb3
      clear hb3
      go_wp2_with fail
      refine (HSM.out none 0 0 [] none 0 0 [] _ (sl_nil _) (by omega) (by simp [maxLen]) (sl_nil _) (by omega) (by simp [maxLen])).mono ?_
      rintro e4 w4 ⟨rfl, hb4⟩
      rw [HNN.out.1, HNN.out.2]
      have hw4 := hw3.call hb4
      clear hb4
      go_wp2_with fail
      refine (refleast_any A n c l _ (HL.out.bel hw4) HMX.out.1 HMX.out.2 HM.out).mono ?_
      rintro e5 w5 ⟨v5, rfl, ho5, hb5⟩
      obtain ⟨A5, c5, rfl, hs5, hn5, hm5⟩ := Sl.own ho5
      have hw5 := hw4.call hb5
      clear ho5 hb5
      go_wp2_with fail
      refine (refleast_any A1 n1 c1 l1 _ (HL1.out.bel hw5) HMY.out.1 HMY.out.2 HM1.out).mono ?_
      rintro e6 w6 ⟨v6, rfl, ho6, hb6⟩
      obtain ⟨A6, c6, rfl, hs6, hn6, hm6⟩ := Sl.own ho6
      have hw6 := hw5.call hb6
      replace hs5 := hs5.bel (Bel.of hb6)
      clear ho6 hb6
      go_wp2_with fail
      refine (eqev_any A5 A6 _ c5 _ c6 _ _ _ hs5 hs6 hn5 hn6 hm5 hm6).mono ?_
      rintro e7 w7 ⟨rfl, hb7⟩
      have HW7 := Lib.hid (hw6.call hb7)
      generalize decide (leastL l = leastL l1) = vb at *
      have hvv : (vb == vb) = true := by simp
      clear hb7 hs5 hs6 hw1 hw2 hw3 hw4 hw5 hw6
      go_wp2
      go_ret
      exact ⟨rfl, HW7.out⟩
    · have HSB := Lib.hid (sameB_no' (a := l) (b := l1) (by rw [hE]; exact h2))
      have HE := Lib.hid hE
      have h9 : (may l1 != 0) = true := by simpa using h2
      clear h1 h2 hE
      go_enter Try.func6, Try.ntmps6
      go_wp2_with fail
      refine (HSM.out A n c l A1 n1 c1 l1 _ HL.out HMX.out.1 HMX.out.2 HL1.out HMY.out.1 HMY.out.2).mono ?_
      rintro e1 w1 ⟨rfl, hb1⟩
      have hw1 := hw0.call hb1
      clear hb1
      rw [HE.out, HSB.out]
      go_wp2_with fail
      refine (rmay_any A n c l _ (HL.out.bel hw1) HMX.out.1 xx).mono ?_
      rintro e2 w2 ⟨rfl, hb2⟩
      rw [HM.out]
      have hw2 := hw1.call hb2
      clear hb2
      go_wp2_with fail
      refine (rmay_any A1 n1 c1 l1 _ (HL1.out.bel hw2) HMY.out.1 yy).mono ?_
      rintro e3 w3 ⟨rfl, hb3⟩
      have hw3 := hw2.call hb3
      clear hb3
      go_wp2_with fail
      refine (HSM.out none 0 0 [] none 0 0 [] _ (sl_nil _) (by omega) (by simp [maxLen]) (sl_nil _) (by omega) (by simp [maxLen])).mono ?_
      rintro e4 w4 ⟨rfl, hb4⟩
      rw [HNN.out.1, HNN.out.2]
      have HW4 := Lib.hid (hw3.call hb4)
      clear hb4 hw1 hw2 hw3
      go_wp2
      go_ret
      exact ⟨rfl, HW4.out⟩
  · have hE : sameE l l1 = may l := by unfold sameE; rw [if_neg h1]
    have HSB := Lib.hid (sameB_no' (a := l) (b := l1) (by rw [hE]; exact h1))
    have HE := Lib.hid hE
    have h9 : (may l != 0) = true := by simpa using h1
    have h8 : (may l == 0) = false := by simpa using h1
    clear h1 hE
    go_enter Try.func6, Try.ntmps6
    go_wp2_with fail
    refine (HSM.out A n c l A1 n1 c1 l1 _ HL.out HMX.out.1 HMX.out.2 HL1.out HMY.out.1 HMY.out.2).mono ?_
    rintro e1 w1 ⟨rfl, hb1⟩
    have hw1 := hw0.call hb1
    clear hb1
    rw [HE.out, HSB.out]
    go_wp2_with fail
    refine (rmay_any A n c l _ (HL.out.bel hw1) HMX.out.1 xx).mono ?_
    rintro e2 w2 ⟨rfl, hb2⟩
    have hw2 := hw1.call hb2
    clear hb2
    go_wp2_with fail
    refine (HSM.out none 0 0 [] none 0 0 [] _ (sl_nil _) (by omega) (by simp [maxLen]) (sl_nil _) (by omega) (by simp [maxLen])).mono ?_
    rintro e4 w4 ⟨rfl, hb4⟩
    rw [HNN.out.1, HNN.out.2]
    have HW4 := Lib.hid (hw2.call hb4)
    clear hb4 hw1 hw2
    go_wp2
    go_ret
    exact ⟨rfl, HW4.out⟩
theorem walk (W : World) (A : Option Addr) (n c : Nat) (l : List Ev) (s : Sl W A n l) (m : n ≤ c) (x : c ≤ maxLen) (g : ∀ e ∈ l, EvOk e) (A1 : Option Addr) (n1 c1 : Nat) (l1 : List Ev) (s1 : Sl W A1 n1 l1) (m1 : n1 ≤ c1) (x1 : c1 ≤ maxLen) (g1 : ∀ e ∈ l1, EvOk e) :
    Calls Try.prog 6 #[.slice A n c, .slice A1 n1 c1] W fun e w' => e = .returned (.bool true) ∧ Below W.heap.size W w' := walkH same_any W A n c l s m x g A1 n1 c1 l1 s1 m1 x1 g1
set_option maxRecDepth 100000 in
theorem lifted (os : Os) (started : os.Started) (H : Type) (enc : TypeId × Value → H) :
    ReturnsInHanded {} Try.checked os 6 .any (Rows.swapSamesSpec.pre6 enc Try.prog Try.f6 Rows.swapSamesRow.domain false) (Rows.swapSamesSpec.post enc Try.prog Try.f6 false true false false) := by
  refine returnsInHanded_of_change_sized (C := Try.checked) own started (by kernel_rfl) Try.func6
    (ChangeSpec.witness6 (enc := enc) (C := Try.checked) false ⟨#[], #[.slice none 0 0, .slice none 0 0], []⟩ 8 (by kernel_rfl) (by kernel_rfl) (by kernel_rfl) (by kernel_rfl)) ?_
  intro W base args ds gs before hval0 hW hcnd hsz0 _
  have hsz : (DataW.weightsEach Try.prog (Try.f6.params.toList ++ Rows.swapSamesSpec.plain.varTypes Try.prog) (ds ++ gs)).all (· ≤ reachBytes) = true := hsz0
  clear hsz0
  have hval : ∀ (j : Nat) t v, Try.f6.params[j]? = some t → args[j]? = some v → Value.okWide Try.prog W .any base t v := hval0
  have hW' := hW
  obtain ⟨p, q, hA0, hV, rfl, hfz, hnd⟩ := hW
  have hA : DataW.TrodAll enc Try.prog W 0 (fun _ => true) true Try.f6.params.toList args.toList ds p := hA0
  rw [Try.params6] at hA hval hsz
  obtain ⟨v0, vs0, d0, ds0, p0, q0, hargs, rfl, rfl, h0, r0⟩ := trodAll_cons hA
  obtain ⟨v1, vs1, d1, ds1, p1, q1, rfl, rfl, rfl, h1, r1⟩ := trodAll_cons r0
  obtain ⟨rfl, rfl, rfl⟩ := trodAll_nil r1
  obtain rfl : args = #[v0, v1] := by cases args; simp_all
  obtain ⟨rfl, rfl⟩ := trodVars_none hV
  have t0 := h0
  have lt0 : ∀ x ∈ p0, x.block < W.heap.size := by obtain ⟨m, hm⟩ := t0; exact DataW.trod_lt m _ _ _ hm
  have t1 := h1
  have lt1 : ∀ x ∈ p1, x.block < W.heap.size := by obtain ⟨m, hm⟩ := t1; exact DataW.trod_lt m _ _ _ hm
  obtain ⟨A0, n0, c0, l0, rfl, s0, m0, x0, g0, z0⟩ := open_evs Try.underlying25 Try.underlying23 ⟨rfl, rfl, rfl⟩ (by kernel_rfl) (by kernel_rfl) Try.underlying3 (hval 0 25 v0 rfl rfl) h0
  have y0 := reach_sl hsz (j := 0) rfl rfl Try.underlying25 (b := 24) (by kernel_rfl) z0
  obtain ⟨A1, n1, c1, l1, rfl, s1, m1, x1, g1, z1⟩ := open_evs Try.underlying25 Try.underlying23 ⟨rfl, rfl, rfl⟩ (by kernel_rfl) (by kernel_rfl) Try.underlying3 (hval 1 25 v1 rfl rfl) h1
  have y1 := reach_sl hsz (j := 1) rfl rfl Try.underlying25 (b := 24) (by kernel_rfl) z1
  clear hA0 hval0
  refine (walk W A0 n0 c0 l0 s0 m0 x0 g0 A1 n1 c1 l1 s1 m1 x1 g1).mono fun e W' ⟨he, bel⟩ => ?_
  subst he
  exact ⟨_, rfl, _, _, _, [], _, [], hW', trodAll_mk1 (shut_bool Try.underlying4 _), (trodAll_cons_mk (Below.trod laidOut (by kernel_rfl) (of_decide_eq_true (by kernel_rfl)) t0 bel lt0) (trodAll_cons_mk (Below.trod laidOut (by kernel_rfl) (of_decide_eq_true (by kernel_rfl)) t1 bel lt1) trodAll_mk0)), rfl, bel.frame _, fun h => by cases h⟩

theorem over : Rows.swapSamesRow.holds Try.pinned (OpenSpec.ofChange Rows.swapSamesSpec) :=
  OpenClaim.holds_of_wide 6 Try.f6 rfl rfl rfl rfl rfl rfl rfl ⟨rfl, rfl, rfl, rfl, rfl⟩ rfl rfl rfl rfl rfl (by kernel_rfl) Try.func6 (by kernel_rfl)
    (of_decide_eq_true (by kernel_rfl)) (by unfold Func.isWrapper; first | (rw [if_pos (by decide +kernel)]; kernel_rfl) | (rw [if_neg (by decide +kernel)]; exact ⟨rfl, rfl⟩))
    (fun os started H enc _ => lifted os started H enc)

theorem proved : Rows.SwapSamesSaid := over
#print axioms proved
end Go.Proofs.Ytjlomojhbjpdfaa.LSwapSames
