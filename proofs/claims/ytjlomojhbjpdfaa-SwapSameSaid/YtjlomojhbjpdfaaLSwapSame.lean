/- 'deadheatkeep.SwapSame' returns true for every input and leaves its arguments as they are. No condition. -/
import Derived.Test.YtjlomojhbjpdfaaOpen
import Derived.Test.YtjlomojhbjpdfaaOpenInts
import Derived.Test.YtjlomojhbjpdfaaSwU
import Derived.Test.YtjlomojhbjpdfaaSwS
import Derived.Test.YtjlomojhbjpdfaaKeepSw
set_option linter.all false
set_option maxRecDepth 100000
namespace Go.Proofs.Ytjlomojhbjpdfaa.LSwapSame
open Go Go.ChangeShapes Go.WideShapes Go.ChangeAt Go.RowKit

theorem sameE_zero {a b : List Ev} : sameE a b = 0 ↔ may a = 0 ∧ may b = 0 := by
  unfold sameE
  by_cases h : may a = 0
  · rw [if_pos h]; exact ⟨fun g => ⟨h, g⟩, fun g => g.2⟩
  · rw [if_neg h]; exact ⟨fun g => absurd g h, fun g => absurd g.1 h⟩
theorem sameB_symm (a b : List Ev) : sameB a b = sameB b a := by
  unfold sameB
  rw [show decide (sameE a b = 0) = decide (sameE b a = 0) from decide_eq_decide.2 (by rw [sameE_zero, sameE_zero]; exact And.comm), show decide (leastL a = leastL b) = decide (leastL b = leastL a) from decide_eq_decide.2 eq_comm]
theorem sameB_no {a b : List Ev} (h : sameE a b ≠ 0) : sameB a b = false := by unfold sameB; rw [decide_eq_false h]; rfl
theorem sameB_ok {a b : List Ev} (h : sameE a b = 0) : sameB a b = decide (leastL a = leastL b) := by unfold sameB; rw [decide_eq_true h]; rfl
theorem swap_same {l q : List Ev} (h : Eqv l q) (hm : may l = 0) : sameB l q = true ∧ sameE l q = 0 := by
  have e := sameE_zero.2 ⟨hm, h.may hm⟩
  exact ⟨by rw [sameB_ok e, eqv_least h]; simp, e⟩
theorem swap_other {l q : List Ev} (h : Eqv l q) (hm : may l = 0) (k : List Ev) : sameB q k = sameB l k ∧ sameE q k = sameE l k := by
  have e : sameE q k = sameE l k := by unfold sameE; rw [if_pos hm, if_pos (h.may hm)]
  exact ⟨by unfold sameB; rw [e, eqv_least h], e⟩
set_option maxHeartbeats 8000000 in
theorem walkH (HS : SwapC) (HA : ApartC) (HSa : SameC) (W : World) (A : Option Addr) (n c : Nat) (l : List Ev) (s : Sl W A n l) (m : n ≤ c) (x : c ≤ maxLen) (_g : ∀ e ∈ l, EvOk e)
    (A1 : Option Addr) (n1 c1 : Nat) (l1 : List Ev) (s1 : Sl W A1 n1 l1) (m1 : n1 ≤ c1) (x1 : c1 ≤ maxLen) (_g1 : ∀ e ∈ l1, EvOk e)
    (B : Option Addr) (nb d : Nat) (js : List Int) (sj : SI W B nb js) (mj : nb ≤ d) (xj : d ≤ maxLen) (gj : ∀ x ∈ js, In64 x) :
    Calls Try.prog 12 #[.slice A n c, .slice A1 n1 c1, .slice B nb d] W fun e w' => e = .returned (.bool true) ∧ Below W.heap.size W w' := by
  have hw0 : Bel W W := Bel.refl _
  have HL := Lib.hid s
  have HL1 := Lib.hid s1
  have HJ := Lib.hid sj
  have HMX := Lib.hid (And.intro m (And.intro x (And.intro mj xj)))
  have HMY := Lib.hid (And.intro m1 x1)
  have HGJ := Lib.hid gj
  have HSW := Lib.hid (fun w => swapped_any HS HA w)
  have HSC := Lib.hid HS
  have HSM := Lib.hid HSa
  clear s m x HS HA HSa sj mj xj gj s1 m1 x1
  by_cases h1 : may l = 0
  · have HM := Lib.hid h1
    by_cases h2 : may l1 = 0
    · skip
      have HE1 := Lib.hid (sameE_zero.2 ⟨h1, h2⟩)
      have HE2 := Lib.hid (sameE_zero.2 ⟨h2, h1⟩)
      clear h1 h2
      go_enter Try.func12, Try.ntmps12
      go_wp2_with fail
      refine (HSW.out _).mono ?_
      rintro e1 w1 ⟨rfl, hb1⟩
      have hw1 := hw0.call hb1
      clear hb1
      go_wp2_with fail
      refine (HSM.out A n c l A1 n1 c1 l1 _ (HL.out.bel hw1) HMX.out.1 HMX.out.2.1 (HL1.out.bel hw1) HMY.out.1 HMY.out.2).mono ?_
      rintro e2 w2 ⟨rfl, hb2⟩
      have hw2 := hw1.call hb2
      clear hb2
      go_wp2_with fail
      refine (HSM.out A1 n1 c1 l1 A n c l _ (HL1.out.bel hw2) HMY.out.1 HMY.out.2 (HL.out.bel hw2) HMX.out.1 HMX.out.2.1).mono ?_
      rintro e3 w3 ⟨rfl, hb3⟩
      have hw3 := hw2.call hb3
      clear hb3
      rw [sameB_symm l1 l]
      rw [HE1.out, HE2.out]
      obtain ⟨vb, hvb⟩ : ∃ vb, sameB l l1 = vb := ⟨_, rfl⟩
      rw [hvb]
      have HV := Lib.hid hvb
      clear hvb
      have hvv : (vb != vb) = false := by simp
      have hv2 : (vb == vb) = true := by simp
      go_wp2_with fail
      refine (may_any A n c l _ (HL.out.bel hw3)).mono ?_
      rintro e w4 ⟨rfl, hb4⟩
      have hw4 := hw3.call hb4
      clear hb4
      rw [HM.out]
      go_wp2_with fail
      refine (swaps_any HSC.out A n c l B nb d js _ (HL.out.bel hw4) HMX.out.1 HMX.out.2.1 (SI.keep HJ.out hw4) HMX.out.2.2.1 HMX.out.2.2.2 HGJ.out HM.out).mono ?_
      rintro e w5 ⟨q5, A5, d5, rfl, he5, hs5, hn5, hd5, hb5⟩
      have hw5 := hw4.call hb5
      have HS5 := Lib.hid (swap_same he5 HM.out)
      clear hb5 he5
      go_wp2_with fail
      refine (HSM.out A n c l A5 n d5 q5 _ (HL.out.bel hw5) HMX.out.1 HMX.out.2.1 hs5 hn5 hd5).mono ?_
      rintro e w6 ⟨rfl, hb6⟩
      rw [HS5.out.1, HS5.out.2]
      have hw6 := hw5.call hb6
      clear hb6 hs5 hn5 hd5
      go_wp2_with fail
      refine (swaps_any HSC.out A n c l B nb d js _ (HL.out.bel hw6) HMX.out.1 HMX.out.2.1 (SI.keep HJ.out hw6) HMX.out.2.2.1 HMX.out.2.2.2 HGJ.out HM.out).mono ?_
      rintro e w7 ⟨q7, A7, d7, rfl, he7, hs7, hn7, hd7, hb7⟩
      have hw7 := hw6.call hb7
      have HS7 := Lib.hid (swap_other he7 HM.out l1)
      clear hb7 he7
      go_wp2_with fail
      refine (HSM.out A7 n d7 q7 A1 n1 c1 l1 _ hs7 hn7 hd7 (HL1.out.bel hw7) HMY.out.1 HMY.out.2).mono ?_
      rintro e w8 ⟨rfl, hb8⟩
      rw [HS7.out.1, HS7.out.2, HV.out, HE1.out]
      have hw8 := hw7.call hb8
      clear hb8 hs7 hn7 hd7
      go_wp2
      go_ret
      exact ⟨rfl, hw8⟩
    · skip
      have hE1 : sameE l l1 ≠ 0 := fun g => h2 (sameE_zero.1 g).2
      have hE2 : sameE l1 l ≠ 0 := fun g => h2 (sameE_zero.1 g).1
      have HSB := Lib.hid (sameB_no hE1)
      go_enter Try.func12, Try.ntmps12
      go_wp2_with fail
      refine (HSW.out _).mono ?_
      rintro e1 w1 ⟨rfl, hb1⟩
      have hw1 := hw0.call hb1
      clear hb1
      go_wp2_with fail
      refine (HSM.out A n c l A1 n1 c1 l1 _ (HL.out.bel hw1) HMX.out.1 HMX.out.2.1 (HL1.out.bel hw1) HMY.out.1 HMY.out.2).mono ?_
      rintro e2 w2 ⟨rfl, hb2⟩
      have hw2 := hw1.call hb2
      clear hb2
      go_wp2_with fail
      refine (HSM.out A1 n1 c1 l1 A n c l _ (HL1.out.bel hw2) HMY.out.1 HMY.out.2 (HL.out.bel hw2) HMX.out.1 HMX.out.2.1).mono ?_
      rintro e3 w3 ⟨rfl, hb3⟩
      have hw3 := hw2.call hb3
      clear hb3
      rw [sameB_symm l1 l]
      rw [HSB.out]
      have hEE : sameE l1 l = sameE l l1 := by unfold sameE; rw [if_pos HM.out, if_neg h2]
      rw [hEE]
      rw [hEE] at hE2
      obtain ⟨E1, hE⟩ : ∃ E1, sameE l l1 = E1 := ⟨_, rfl⟩
      rw [hE]
      rw [hE] at hE1 hE2
      have HE := Lib.hid hE
      clear hE hEE h1 h2
      have hE3 : (E1 == 0) = false := by simpa using hE1
      have hE5 : (E1 != 0) = true := by simpa using hE1
      go_wp2_with fail
      refine (may_any A n c l _ (HL.out.bel hw3)).mono ?_
      rintro e w4 ⟨rfl, hb4⟩
      have hw4 := hw3.call hb4
      clear hb4
      rw [HM.out]
      go_wp2_with fail
      refine (swaps_any HSC.out A n c l B nb d js _ (HL.out.bel hw4) HMX.out.1 HMX.out.2.1 (SI.keep HJ.out hw4) HMX.out.2.2.1 HMX.out.2.2.2 HGJ.out HM.out).mono ?_
      rintro e w5 ⟨q5, A5, d5, rfl, he5, hs5, hn5, hd5, hb5⟩
      have hw5 := hw4.call hb5
      have HS5 := Lib.hid (swap_same he5 HM.out)
      clear hb5 he5
      go_wp2_with fail
      refine (HSM.out A n c l A5 n d5 q5 _ (HL.out.bel hw5) HMX.out.1 HMX.out.2.1 hs5 hn5 hd5).mono ?_
      rintro e w6 ⟨rfl, hb6⟩
      rw [HS5.out.1, HS5.out.2]
      have hw6 := hw5.call hb6
      clear hb6 hs5 hn5 hd5
      go_wp2_with fail
      refine (swaps_any HSC.out A n c l B nb d js _ (HL.out.bel hw6) HMX.out.1 HMX.out.2.1 (SI.keep HJ.out hw6) HMX.out.2.2.1 HMX.out.2.2.2 HGJ.out HM.out).mono ?_
      rintro e w7 ⟨q7, A7, d7, rfl, he7, hs7, hn7, hd7, hb7⟩
      have hw7 := hw6.call hb7
      have HS7 := Lib.hid (swap_other he7 HM.out l1)
      clear hb7 he7
      go_wp2_with fail
      refine (HSM.out A7 n d7 q7 A1 n1 c1 l1 _ hs7 hn7 hd7 (HL1.out.bel hw7) HMY.out.1 HMY.out.2).mono ?_
      rintro e w8 ⟨rfl, hb8⟩
      rw [HS7.out.1, HS7.out.2, HSB.out, HE.out]
      have hw8 := hw7.call hb8
      clear hb8 hs7 hn7 hd7
      go_wp2
      go_ret
      exact ⟨rfl, hw8⟩
  · skip
    have hE1 : sameE l l1 ≠ 0 := fun g => h1 (sameE_zero.1 g).1
    have hE2 : sameE l1 l ≠ 0 := fun g => h1 (sameE_zero.1 g).2
    have HSB := Lib.hid (sameB_no hE1)
    go_enter Try.func12, Try.ntmps12
    go_wp2_with fail
    refine (HSW.out _).mono ?_
    rintro e1 w1 ⟨rfl, hb1⟩
    have hw1 := hw0.call hb1
    clear hb1
    go_wp2_with fail
    refine (HSM.out A n c l A1 n1 c1 l1 _ (HL.out.bel hw1) HMX.out.1 HMX.out.2.1 (HL1.out.bel hw1) HMY.out.1 HMY.out.2).mono ?_
    rintro e2 w2 ⟨rfl, hb2⟩
    have hw2 := hw1.call hb2
    clear hb2
    go_wp2_with fail
    refine (HSM.out A1 n1 c1 l1 A n c l _ (HL1.out.bel hw2) HMY.out.1 HMY.out.2 (HL.out.bel hw2) HMX.out.1 HMX.out.2.1).mono ?_
    rintro e3 w3 ⟨rfl, hb3⟩
    have hw3 := hw2.call hb3
    clear hb3
    rw [sameB_symm l1 l]
    rw [HSB.out]
    generalize sameE l l1 = E1 at *
    generalize sameE l1 l = E2 at *
    have hE3 : (E1 == 0) = false := by simpa using hE1
    have hE4 : (E2 == 0) = false := by simpa using hE2
    have hE5 : (E1 != 0) = true := by simpa using hE1
    have h9 : (may l == 0) = false := by simpa using h1
    go_wp2_with fail
    refine (may_any A n c l _ (HL.out.bel hw3)).mono ?_
    rintro e w4 ⟨rfl, hb4⟩
    have hw4 := hw3.call hb4
    clear hb4
    go_wp2
    go_ret
    exact ⟨rfl, hw4⟩
theorem walk (W : World) (A : Option Addr) (n c : Nat) (l : List Ev) (s : Sl W A n l) (m : n ≤ c) (x : c ≤ maxLen) (g : ∀ e ∈ l, EvOk e) (A1 : Option Addr) (n1 c1 : Nat) (l1 : List Ev) (s1 : Sl W A1 n1 l1) (m1 : n1 ≤ c1) (x1 : c1 ≤ maxLen) (g1 : ∀ e ∈ l1, EvOk e) (B : Option Addr) (nb d : Nat) (js : List Int) (sj : SI W B nb js) (mj : nb ≤ d) (xj : d ≤ maxLen) (gj : ∀ x ∈ js, In64 x) :
    Calls Try.prog 12 #[.slice A n c, .slice A1 n1 c1, .slice B nb d] W fun e w' => e = .returned (.bool true) ∧ Below W.heap.size W w' := walkH swap_any apart_any same_any W A n c l s m x g A1 n1 c1 l1 s1 m1 x1 g1 B nb d js sj mj xj gj
set_option maxRecDepth 100000 in
theorem lifted (os : Os) (started : os.Started) (H : Type) (enc : TypeId × Value → H) :
    ReturnsInHanded {} Try.checked os 12 .any (Rows.swapSameSpec.pre6 enc Try.prog Try.f12 Rows.swapSameRow.domain false) (Rows.swapSameSpec.post enc Try.prog Try.f12 false true false false) := by
  refine returnsInHanded_of_change_sized (C := Try.checked) own started (by kernel_rfl) Try.func12
    (ChangeSpec.witness6 (enc := enc) (C := Try.checked) false ⟨#[], #[.slice none 0 0, .slice none 0 0, .slice none 0 0], []⟩ 8 (by kernel_rfl) (by kernel_rfl) (by kernel_rfl) (by kernel_rfl)) ?_
  intro W base args ds gs before hval0 hW hcnd hsz0 _
  have hsz : (DataW.weightsEach Try.prog (Try.f12.params.toList ++ Rows.swapSameSpec.plain.varTypes Try.prog) (ds ++ gs)).all (· ≤ reachBytes) = true := hsz0
  clear hsz0
  have hval : ∀ (j : Nat) t v, Try.f12.params[j]? = some t → args[j]? = some v → Value.okWide Try.prog W .any base t v := hval0
  have hW' := hW
  obtain ⟨p, q, hA0, hV, rfl, hfz, hnd⟩ := hW
  have hA : DataW.TrodAll enc Try.prog W 0 (fun _ => true) true Try.f12.params.toList args.toList ds p := hA0
  rw [Try.params12] at hA hval hsz
  obtain ⟨v0, vs0, d0, ds0, p0, q0, hargs, rfl, rfl, h0, r0⟩ := trodAll_cons hA
  obtain ⟨v1, vs1, d1, ds1, p1, q1, rfl, rfl, rfl, h1, r1⟩ := trodAll_cons r0
  obtain ⟨v2, vs2, d2, ds2, p2, q2, rfl, rfl, rfl, h2, r2⟩ := trodAll_cons r1
  obtain ⟨rfl, rfl, rfl⟩ := trodAll_nil r2
  obtain rfl : args = #[v0, v1, v2] := by cases args; simp_all
  obtain ⟨rfl, rfl⟩ := trodVars_none hV
  have t0 := h0
  have lt0 : ∀ x ∈ p0, x.block < W.heap.size := by obtain ⟨m, hm⟩ := t0; exact DataW.trod_lt m _ _ _ hm
  have t1 := h1
  have lt1 : ∀ x ∈ p1, x.block < W.heap.size := by obtain ⟨m, hm⟩ := t1; exact DataW.trod_lt m _ _ _ hm
  have t2 := h2
  have lt2 : ∀ x ∈ p2, x.block < W.heap.size := by obtain ⟨m, hm⟩ := t2; exact DataW.trod_lt m _ _ _ hm
  obtain ⟨A0, n0, c0, l0, rfl, s0, m0, x0, g0, z0⟩ := open_evs Try.underlying25 Try.underlying23 ⟨rfl, rfl, rfl⟩ (by kernel_rfl) (by kernel_rfl) Try.underlying3 (hval 0 25 v0 rfl rfl) h0
  have y0 := reach_sl hsz (j := 0) rfl rfl Try.underlying25 (b := 24) (by kernel_rfl) z0
  obtain ⟨A1, n1, c1, l1, rfl, s1, m1, x1, g1, z1⟩ := open_evs Try.underlying25 Try.underlying23 ⟨rfl, rfl, rfl⟩ (by kernel_rfl) (by kernel_rfl) Try.underlying3 (hval 1 25 v1 rfl rfl) h1
  have y1 := reach_sl hsz (j := 1) rfl rfl Try.underlying25 (b := 24) (by kernel_rfl) z1
  obtain ⟨A2, n2, c2, l2, rfl, s2, m2, x2, g2⟩ := open_ints_arg Try.underlying40 Try.underlying3 (by kernel_rfl) (hval 2 40 v2 rfl rfl) h2
  clear hA0 hval0
  refine (walk W A0 n0 c0 l0 s0 m0 x0 g0 A1 n1 c1 l1 s1 m1 x1 g1 A2 n2 c2 l2 s2 m2 x2 g2).mono fun e W' ⟨he, bel⟩ => ?_
  subst he
  exact ⟨_, rfl, _, _, _, [], _, [], hW', trodAll_mk1 (shut_bool Try.underlying4 _), (trodAll_cons_mk (Below.trod laidOut (by kernel_rfl) (of_decide_eq_true (by kernel_rfl)) t0 bel lt0) (trodAll_cons_mk (Below.trod laidOut (by kernel_rfl) (of_decide_eq_true (by kernel_rfl)) t1 bel lt1) (trodAll_cons_mk (Below.trod laidOut (by kernel_rfl) (of_decide_eq_true (by kernel_rfl)) t2 bel lt2) trodAll_mk0))), rfl, bel.frame _, fun h => by cases h⟩

theorem over : Rows.swapSameRow.holds Try.pinned (OpenSpec.ofChange Rows.swapSameSpec) :=
  OpenClaim.holds_of_wide 12 Try.f12 rfl rfl rfl rfl rfl rfl rfl ⟨rfl, rfl, rfl, rfl, rfl⟩ rfl rfl rfl rfl rfl (by kernel_rfl) Try.func12 (by kernel_rfl)
    (of_decide_eq_true (by kernel_rfl)) (by unfold Func.isWrapper; first | (rw [if_pos (by decide +kernel)]; kernel_rfl) | (rw [if_neg (by decide +kernel)]; exact ⟨rfl, rfl⟩))
    (fun os started H enc _ => lifted os started H enc)

theorem proved : Rows.SwapSameSaid := over
#print axioms proved
end Go.Proofs.Ytjlomojhbjpdfaa.LSwapSame
