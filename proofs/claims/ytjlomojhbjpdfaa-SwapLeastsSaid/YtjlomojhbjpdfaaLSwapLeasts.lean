/- 'deadheatkeep.SwapLeasts' returns true for every input and leaves its arguments as they are. No condition. -/
import Derived.Test.YtjlomojhbjpdfaaOpen
import Derived.Test.YtjlomojhbjpdfaaOpenInts
import Derived.Test.YtjlomojhbjpdfaaSwU
import Derived.Test.YtjlomojhbjpdfaaSwS
import Derived.Test.YtjlomojhbjpdfaaKeepSw
set_option linter.all false
set_option maxRecDepth 100000
namespace Go.Proofs.Ytjlomojhbjpdfaa.LSwapLeasts
open Go Go.ChangeShapes Go.WideShapes Go.ChangeAt Go.RowKit

theorem leB_ok {l r : List Ev} {c : Int} (h : LeB l r c) (hm : may l = 0) : r = leastL l ∧ c = 0 := by
  rcases h with ⟨h1, _⟩ | ⟨_, h2, h3⟩
  · exact absurd hm h1
  · exact ⟨h2, h3⟩
theorem same_least {l : List Ev} (hm : may l = 0) : sameB l (leastL l) = true ∧ sameE l (leastL l) = 0 := by
  have e : sameE l (leastL l) = 0 := by unfold sameE; rw [if_pos hm]; exact leastL_may hm
  refine ⟨?_, e⟩
  unfold sameB
  rw [e, leastL_idem (may_fit hm)]
  simp
set_option maxHeartbeats 8000000 in
theorem walkH (HS : SwapC) (HA : ApartC) (HLe : LeastC) (HSa : SameC) (W : World) (A : Option Addr) (n c : Nat) (l : List Ev) (s : Sl W A n l) (m : n ≤ c) (x : c ≤ maxLen) (_g : ∀ e ∈ l, EvOk e)
    (B : Option Addr) (nb d : Nat) (js : List Int) (sj : SI W B nb js) (mj : nb ≤ d) (xj : d ≤ maxLen) (gj : ∀ x ∈ js, In64 x) :
    Calls Try.prog 11 #[.slice A n c, .slice B nb d] W fun e w' => e = .returned (.bool true) ∧ Below W.heap.size W w' := by
  have hw0 : Bel W W := Bel.refl _
  have HL := Lib.hid s
  have HJ := Lib.hid sj
  have HMX := Lib.hid (And.intro m (And.intro x (And.intro mj xj)))
  have HGJ := Lib.hid gj
  have HSW := Lib.hid (fun w => swapped_any HS HA w)
  have HSC := Lib.hid HS
  have HLC := Lib.hid HLe
  have HSM := Lib.hid HSa
  clear s m x HS HA HLe HSa sj mj xj gj
  go_enter Try.func11, Try.ntmps11
  go_wp2_with fail
  refine (HSW.out _).mono ?_
  rintro e1 w1 ⟨rfl, hb1⟩
  have hw1 := hw0.call hb1
  clear hb1
  go_wp2_with fail
  refine (HLC.out A n c l w1 (HL.out.bel hw1) HMX.out.1 HMX.out.2.1).mono ?_
  rintro e w2 ⟨r, cc, hB, A2, n2, d2, rfl, hs2, hn2, hd2, hb2⟩
  have HW2 := Lib.hid (Bel.trans hw1 (Bel.of hb2))
  rcases hB with ⟨h1, rfl, rfl⟩ | ⟨h1, rfl, rfl⟩
  · have h2 : (may l != 0) = true := by simpa using h1
    have hn0 : n2 = 0 := hs2.1.symm
    subst hn0
    clear hs2 hn2 hd2 hb2 hw0 hw1
    go_wp2
    go_ret
    exact ⟨rfl, HW2.out⟩
  · have HM := Lib.hid h1
    have HML := Lib.hid (leastL_may h1)
    have HID := Lib.hid (leastL_idem (may_fit h1))
    have HSL := Lib.hid (same_least h1)
    have hnn : n2 = n := by rw [← hs2.1, leastL_len (may_fit h1), HL.out.1]
    subst hnn
    have HS2 := Lib.hid hs2
    have HD2 := Lib.hid (And.intro hn2 hd2)
    clear hs2 hb2 hw0 hw1 h1 hn2 hd2
    go_wp2_with fail
    refine (swaps_any HSC.out A n2 c l B nb d js w2 (HL.out.bel HW2.out) HMX.out.1 HMX.out.2.1 (SI.keep HJ.out HW2.out) HMX.out.2.2.1 HMX.out.2.2.2 HGJ.out HM.out).mono ?_
    rintro e w3 ⟨m3, A3, d3, rfl, he3, hs3, hn3, hd3, hb3⟩
    have HE3 := Lib.hid he3
    have HW3 := Lib.hid (HW2.out.call hb3)
    have HS3 := Lib.hid (HS2.out.bel (Bel.of hb3))
    go_wp2_with fail
    refine (HLC.out A3 n2 d3 m3 w3 hs3 hn3 hd3).mono ?_
    rintro e w4 ⟨r4, c4, hB4, A4, n4, d4, rfl, hs4, hn4, hd4, hb4⟩
    obtain ⟨rfl, rfl⟩ := leB_ok hB4 (HE3.out.may HM.out)
    rw [← eqv_least HE3.out] at hs4
    have HW4 := Lib.hid (HW3.out.call hb4)
    have HS4 := Lib.hid (HS3.out.bel (Bel.of hb4))
    have HB4 := Lib.hid hs4
    have HD4 := Lib.hid (And.intro hn4 hd4)
    clear he3 hs3 hn3 hd3 hb3 hB4 hs4 hn4 hd4 hb4
    go_wp2_with fail
    refine (HLC.out A2 n2 d2 (leastL l) w4 HS4.out HD2.out.1 HD2.out.2).mono ?_
    rintro e w5 ⟨r5, c5, hB5, A5, n5, d5, rfl, hs5, hn5, hd5, hb5⟩
    obtain ⟨rfl, rfl⟩ := leB_ok hB5 HML.out
    rw [HID.out] at hs5
    have HW5 := Lib.hid (HW4.out.call hb5)
    have HS5 := Lib.hid (HS4.out.bel (Bel.of hb5))
    have HB5 := Lib.hid (HB4.out.bel (Bel.of hb5))
    have HC5 := Lib.hid hs5
    have HD5 := Lib.hid (And.intro hn5 hd5)
    clear hB5 hs5 hn5 hd5 hb5
    go_wp2_with fail
    refine (HSM.out A n2 c l A2 n2 d2 (leastL l) w5 (HL.out.bel HW5.out) HMX.out.1 HMX.out.2.1 HS5.out HD2.out.1 HD2.out.2).mono ?_
    rintro e w6 ⟨rfl, hb6⟩
    rw [HSL.out.1, HSL.out.2]
    have HW6 := Lib.hid (HW5.out.call hb6)
    have HS6 := Lib.hid (HS5.out.bel (Bel.of hb6))
    have HB6 := Lib.hid (HB5.out.bel (Bel.of hb6))
    have HC6 := Lib.hid (HC5.out.bel (Bel.of hb6))
    clear hb6
    go_wp2_with fail
    refine (eqev_any A2 A4 n2 d2 n4 d4 (leastL l) (leastL l) w6 HS6.out HB6.out HD2.out.1 HD4.out.1 HD2.out.2 HD4.out.2).mono ?_
    rintro e w7 ⟨rfl, hb7⟩
    rw [decide_eq_true rfl]
    have HW7 := Lib.hid (HW6.out.call hb7)
    have HS7 := Lib.hid (HS6.out.bel (Bel.of hb7))
    have HC7 := Lib.hid (HC6.out.bel (Bel.of hb7))
    clear hb7
    go_wp2_with fail
    refine (eqev_any A2 A5 n2 d2 n5 d5 (leastL l) (leastL l) w7 HS7.out HC7.out HD2.out.1 HD5.out.1 HD2.out.2 HD5.out.2).mono ?_
    rintro e w8 ⟨rfl, hb8⟩
    rw [decide_eq_true rfl]
    have HW8 := Lib.hid (HW7.out.call hb8)
    clear hb8
    go_wp2
    go_ret
    exact ⟨rfl, HW8.out⟩
theorem walk (W : World) (A : Option Addr) (n c : Nat) (l : List Ev) (s : Sl W A n l) (m : n ≤ c) (x : c ≤ maxLen) (g : ∀ e ∈ l, EvOk e) (B : Option Addr) (nb d : Nat) (js : List Int) (sj : SI W B nb js) (mj : nb ≤ d) (xj : d ≤ maxLen) (gj : ∀ x ∈ js, In64 x) :
    Calls Try.prog 11 #[.slice A n c, .slice B nb d] W fun e w' => e = .returned (.bool true) ∧ Below W.heap.size W w' := walkH swap_any apart_any least_any same_any W A n c l s m x g B nb d js sj mj xj gj
set_option maxRecDepth 100000 in
theorem lifted (os : Os) (started : os.Started) (H : Type) (enc : TypeId × Value → H) :
    ReturnsInHanded {} Try.checked os 11 .any (Rows.swapLeastsSpec.pre6 enc Try.prog Try.f11 Rows.swapLeastsRow.domain false) (Rows.swapLeastsSpec.post enc Try.prog Try.f11 false true false false) := by
  refine returnsInHanded_of_change_sized (C := Try.checked) own started (by kernel_rfl) Try.func11
    (ChangeSpec.witness6 (enc := enc) (C := Try.checked) false ⟨#[], #[.slice none 0 0, .slice none 0 0], []⟩ 8 (by kernel_rfl) (by kernel_rfl) (by kernel_rfl) (by kernel_rfl)) ?_
  intro W base args ds gs before hval0 hW hcnd hsz0 _
  have hsz : (DataW.weightsEach Try.prog (Try.f11.params.toList ++ Rows.swapLeastsSpec.plain.varTypes Try.prog) (ds ++ gs)).all (· ≤ reachBytes) = true := hsz0
  clear hsz0
  have hval : ∀ (j : Nat) t v, Try.f11.params[j]? = some t → args[j]? = some v → Value.okWide Try.prog W .any base t v := hval0
  have hW' := hW
  obtain ⟨p, q, hA0, hV, rfl, hfz, hnd⟩ := hW
  have hA : DataW.TrodAll enc Try.prog W 0 (fun _ => true) true Try.f11.params.toList args.toList ds p := hA0
  rw [Try.params11] at hA hval hsz
  obtain ⟨v0, vs0, d0, ds0, p0, q0, hargs, rfl, rfl, h0, r0⟩ := trodAll_cons hA
  obtain ⟨v1, vs1, d1, ds1, p1, q1, rfl, rfl, rfl, h1, r1⟩ := trodAll_cons r0
  obtain ⟨rfl, rfl, rfl⟩ := trodAll_nil r1
  obtain rfl : args = #[v0, v1] := by cases args; simp_all
  obtain ⟨rfl, rfl⟩ := trodVars_none hV
  have t0 := h0
  have lt0 : ∀ x ∈ p0, x.block < W.heap.size := by obtain ⟨m, hm⟩ := t0; exact DataW.trod_lt m _ _ _ hm
  have t1 := h1
  have lt1 : ∀ x ∈ p1, x.block < W.heap.size := by obtain ⟨m, hm⟩ := t1; exact DataW.trod_lt m _ _ _ hm
  obtain ⟨A0, n0, c0, l0, rfl, s0, m0, x0, g0, z0⟩ := open_evs Try.underlying25 Try.underlying23 ⟨rfl, rfl, rfl⟩ (by kernel_rfl) (by kernel_rfl) Try.underlying3 (hval 0 25 v0 rfl rfl) h0
  have y0 := reach_sl hsz (j := 0) rfl rfl Try.underlying25 (b := 24) (by kernel_rfl) z0
  obtain ⟨A1, n1, c1, l1, rfl, s1, m1, x1, g1⟩ := open_ints_arg Try.underlying40 Try.underlying3 (by kernel_rfl) (hval 1 40 v1 rfl rfl) h1
  clear hA0 hval0
  refine (walk W A0 n0 c0 l0 s0 m0 x0 g0 A1 n1 c1 l1 s1 m1 x1 g1).mono fun e W' ⟨he, bel⟩ => ?_
  subst he
  exact ⟨_, rfl, _, _, _, [], _, [], hW', trodAll_mk1 (shut_bool Try.underlying4 _), (trodAll_cons_mk (Below.trod laidOut (by kernel_rfl) (of_decide_eq_true (by kernel_rfl)) t0 bel lt0) (trodAll_cons_mk (Below.trod laidOut (by kernel_rfl) (of_decide_eq_true (by kernel_rfl)) t1 bel lt1) trodAll_mk0)), rfl, bel.frame _, fun h => by cases h⟩

theorem over : Rows.swapLeastsRow.holds Try.pinned (OpenSpec.ofChange Rows.swapLeastsSpec) :=
  OpenClaim.holds_of_wide 11 Try.f11 rfl rfl rfl rfl rfl rfl rfl ⟨rfl, rfl, rfl, rfl, rfl⟩ rfl rfl rfl rfl rfl (by kernel_rfl) Try.func11 (by kernel_rfl)
    (of_decide_eq_true (by kernel_rfl)) (by unfold Func.isWrapper; first | (rw [if_pos (by decide +kernel)]; kernel_rfl) | (rw [if_neg (by decide +kernel)]; exact ⟨rfl, rfl⟩))
    (fun os started H enc _ => lifted os started H enc)

theorem proved : Rows.SwapLeastsSaid := over
#print axioms proved
end Go.Proofs.Ytjlomojhbjpdfaa.LSwapLeasts
