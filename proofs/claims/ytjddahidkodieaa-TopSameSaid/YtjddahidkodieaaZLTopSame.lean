import Derived.Test.YtjddahidkodieaaZKeepPg
import Derived.Test.YtjddahidkodieaaZOpenInts
import Derived.Test.YtjddahidkodieaaZEqInt
import Derived.Test.YtjddahidkodieaaZSwT
import Derived.Test.YtjddahidkodieaaZOrder
import Derived.Test.YtjddahidkodieaaZAll
import Derived.Test.YtjddahidkodieaaZSl
import Derived.Test.YtjddahidkodieaaZEqEv
import Derived.Test.YtjddahidkodieaaZFo
import Derived.Test.YtjddahidkodieaaZKeepTp
set_option linter.all false
set_option maxRecDepth 100000
namespace Go.Proofs.Ytjddahidkodieaa.LTopSame
open Go Go.ChangeShapes Go.WideShapes Go.ChangeAt Go.RowKit

set_option maxHeartbeats 16000000 in
theorem walkH (HR : RunC) (HW : ∀ w, Calls Try.prog 10 #[] w fun e w' => e = .returned (.bool true) ∧ Below w.heap.size w w') (W : World) (A : Option Addr) (n c : Nat) (l : List (List Ev)) (s : Prg W A n l) (m : n ≤ c) (x : c ≤ maxLen) (_g : ∀ ops ∈ l, ∀ e ∈ ops, EvOk e)
    (B1 : Option Addr) (k1 d1 : Nat) (q1 : List Int) (s1 : SI W B1 k1 q1) (m1 : k1 ≤ d1) (x1 : d1 ≤ maxLen) (_g1 : ∀ x ∈ q1, In64 x)
    (B2 : Option Addr) (k2 d2 : Nat) (q2 : List Int) (s2 : SI W B2 k2 q2) (m2 : k2 ≤ d2) (x2 : d2 ≤ maxLen) (_g2 : ∀ x ∈ q2, In64 x) :
    Calls Try.prog 8 #[.slice A n c, .slice B1 k1 d1, .slice B2 k2 d2] W fun e w' => e = .returned (.bool true) ∧ Below W.heap.size W w' := by
  have HL := Lib.hid s
  have HM := Lib.hid (And.intro m x)
  have HS1 := Lib.hid (And.intro s1 (And.intro m1 x1))
  have HS2 := Lib.hid (And.intro s2 (And.intro m2 x2))
  have HRN := Lib.hid HW
  clear HW
  unfold RunC at HR
  have H1 := Lib.hid HR
  clear s m x HR s1 m1 x1 s2 m2 x2
  go_enter Try.func8, Try.ntmps8
  go_wp2_with fail
  refine (HRN.out W).mono ?_
  rintro e0 w0 ⟨rfl, hb0⟩
  have HW0 := Lib.hid (Bel.of hb0)
  clear hb0
  go_wp2_with fail
  refine (H1.out A n c l B1 k1 d1 q1 _ (HL.out.bel HW0.out) HM.out.1 HM.out.2 (HS1.out.1.keep HW0.out) HS1.out.2.1 HS1.out.2.2).mono ?_
  rintro e1 w1 ⟨v1, y1, l1, c1, rfl, hB1, ho1, hb1⟩
  have HV1 := Lib.hid (EnV.run hB1)
  have HB1 := Lib.hid hB1
  obtain ⟨A1, e1', rfl, hs1, hn1, hm1⟩ := Sl.own ho1
  have HX1 := Lib.hid (enw_box w1 y1)
  have HE1 := Lib.hid ((HW0.out.call hb1).trans (enw_bel w1 y1))
  have HU1 := Lib.hid ((Bel.of hb1).trans (enw_bel w1 y1))
  have HT1 := Lib.hid (And.intro (hs1.bel (enw_bel w1 y1).out) (And.intro hn1 hm1))
  clear hb1 ho1 hs1 hn1 hm1 hB1
  go_wp2_with (refine enw_store HV1.out.ty _ _ rfl rfl HV1.out.size HV1.out.one rfl rfl rfl ?_)
  refine (H1.out A n c l B2 k2 d2 q2 _ (HL.out.bel HE1.out) HM.out.1 HM.out.2 (HS2.out.1.keep HE1.out) HS2.out.2.1 HS2.out.2.2).mono ?_
  rintro e2 w2 ⟨v2, y2, l2, c2, rfl, hB2, ho2, hb2⟩
  have HV2 := Lib.hid (EnV.run hB2)
  have HB2 := Lib.hid hB2
  obtain ⟨A2, e2', rfl, hs2, hn2, hm2⟩ := Sl.own ho2
  have HX2 := Lib.hid (enw_box w2 y2)
  have HE2 := Lib.hid ((HE1.out.call hb2).trans (enw_bel w2 y2))
  have HU2 := Lib.hid ((Bel.of hb2).trans (enw_bel w2 y2))
  have HT2 := Lib.hid (And.intro (hs2.bel (enw_bel w2 y2).out) (And.intro hn2 hm2))
  clear hb2 ho2 hs2 hn2 hm2 hB2
  have HX1' := Lib.hid (HU2.out.box HX1.out)
  have HT1' := Lib.hid (HT1.out.1.bel HU2.out.out)
  rcases runB_cases HB1.out with ⟨hc1, rfl, rfl⟩ | ⟨rfl, hok, h100, rfl, rfl⟩
  · have h9 : (c1 != 0) = true := by simpa using hc1
    clear hc1
    go_wp2_with (refine enw_store HV2.out.ty _ _ rfl rfl HV2.out.size HV2.out.one rfl rfl rfl ?_)
    go_ret
    exact ⟨rfl, HE2.out.out⟩
  rcases runB_cases HB2.out with ⟨hc2, rfl, rfl⟩ | ⟨rfl, _, h100', rfl, rfl⟩
  · have h9 : (c2 != 0) = true := by simpa using hc2
    clear hc2
    go_wp2_with (refine enw_store HV2.out.ty _ _ rfl rfl HV2.out.size HV2.out.one rfl rfl rfl ?_)
    go_ret
    exact ⟨rfl, HE2.out.out⟩
  have c1d := HX1'.out.cell 18 (v := .bool (doneP l (runP l q1))) rfl
  have c2d := HX2.out.cell 18 (v := .bool (doneP l (runP l q2))) rfl
  clear h100 h100'
  have HOK := Lib.hid hok
  clear hok
  cases hd1 : doneP l (runP l q1)
  · rw [hd1] at c1d
    clear hd1
    go_wp2_with (refine enw_store HV2.out.ty _ _ rfl rfl HV2.out.size HV2.out.one rfl rfl rfl ?_)
    go_ret
    exact ⟨rfl, HE2.out.out⟩
  cases hd2 : doneP l (runP l q2)
  · rw [hd2] at c2d
    clear hd2
    go_wp2_with (refine enw_store HV2.out.ty _ _ rfl rfl HV2.out.size HV2.out.one rfl rfl rfl ?_)
    go_ret
    exact ⟨rfl, HE2.out.out⟩
  rw [hd1] at c1d
  rw [hd2] at c2d
  have HD := Lib.hid (And.intro hd1 hd2)
  clear hd1 hd2
  have HM1 := Lib.hid ((runP_ok HOK.out q1).may HOK.out)
  have HM2 := Lib.hid ((runP_ok HOK.out q2).may HOK.out)
  have HQQ := Lib.hid (fun h => end_same HOK.out HD.out.1 HD.out.2 h)
  have HLC := Lib.hid least_any
  unfold LeastC at HLC
  go_wp2_with (refine enw_store HV2.out.ty _ _ rfl rfl HV2.out.size HV2.out.one rfl rfl rfl ?_)
  refine (HLC.out A1 _ e1' _ _ HT1'.out HT1.out.2.1 HT1.out.2.2).mono ?_
  rintro e3 w3 ⟨r3, k3, hB3, A3, n3, d3, rfl, hs3, hn3, hd3, hb3⟩
  obtain ⟨rfl, rfl⟩ : r3 = leastL (runP l q1).L ∧ k3 = 0 := by
    rcases hB3 with ⟨h1, _⟩ | ⟨_, h2, h3⟩
    · exact absurd HM1.out h1
    · exact ⟨h2, h3⟩
  have HE3 := Lib.hid (HE2.out.call hb3)
  have HU3 := Lib.hid (Bel.of hb3)
  have HS3 := Lib.hid (And.intro hs3 (And.intro hn3 hd3))
  clear hb3 hs3 hn3 hd3 hB3
  go_wp2_with fail
  refine (HLC.out A2 _ e2' _ w3 (HT2.out.1.bel HU3.out) HT2.out.2.1 HT2.out.2.2).mono ?_
  rintro e4 w4 ⟨r4, k4, hB4, A4, n4, d4, rfl, hs4, hn4, hd4, hb4⟩
  obtain ⟨rfl, rfl⟩ : r4 = leastL (runP l q2).L ∧ k4 = 0 := by
    rcases hB4 with ⟨h1, _⟩ | ⟨_, h2, h3⟩
    · exact absurd HM2.out h1
    · exact ⟨h2, h3⟩
  have HE4 := Lib.hid (HE3.out.call hb4)
  have HU4 := Lib.hid (HU3.out.call hb4)
  have HS3' := Lib.hid (HS3.out.1.bel (Bel.of hb4))
  have HS4 := Lib.hid (And.intro hs4 (And.intro hn4 hd4))
  clear hb4 hs4 hn4 hd4 hB4
  go_wp2_with fail
  refine (eqev_any A3 A4 n3 d3 n4 d4 _ _ w4 HS3'.out HS4.out.1 HS3.out.2.1 HS4.out.2.1 HS3.out.2.2 HS4.out.2.2).mono ?_
  rintro e5 w5 ⟨rfl, hb5⟩
  have HE5 := Lib.hid (HE4.out.call hb5)
  have HU5 := Lib.hid (HU4.out.call hb5)
  clear hb5
  by_cases hle : leastL (runP l q1).L = leastL (runP l q2).L
  · rw [decide_eq_true hle]
    have HEQ := Lib.hid ((eqv_iff (may_fit HM1.out) (may_fit HM2.out)).2 hle)
    have HLN := Lib.hid (show (rcs (runP l q2).L).length = (rcs (runP l q1).L).length by have := (rk_eqv HEQ.out HM1.out).2; unfold rk at this; simpa using this)
    have hq := HQQ.out HEQ.out
    have HT15 := Lib.hid (HT1'.out.bel HU5.out)
    have HT25 := Lib.hid (HT2.out.1.bel HU5.out)
    clear hle
    go_wp2_with fail
    refine (alle_any A1 _ e1' _ w5 HT15.out).mono ?_
    rintro e6 w6 ⟨v6, rfl, ho6, hb6⟩
    rw [HM1.out]
    obtain ⟨A6, c6, rfl, _, hn6, hm6⟩ := SlR.own ho6
    have HE6 := Lib.hid (HE5.out.call hb6)
    have HU6 := Lib.hid (HU5.out.call hb6)
    have HT26 := Lib.hid (HT25.out.bel (Bel.of hb6))
    clear hb6 ho6 hn6 hm6
    go_wp2_with fail
    refine (alle_any A2 _ e2' _ w6 HT26.out).mono ?_
    rintro e7 w7 ⟨v7, rfl, ho7, hb7⟩
    rw [HM2.out]
    obtain ⟨A7, c7, rfl, _, hn7, hm7⟩ := SlR.own ho7
    have HE7 := Lib.hid (HE6.out.call hb7)
    have HU7 := Lib.hid (HU6.out.call hb7)
    clear hb7 ho7 hn7 hm7
    rw [HLN.out]
    have HX3 := Lib.hid (HU7.out.box HX1'.out)
    have HX4 := Lib.hid (HU7.out.box HX2.out)
    rw [hq] at HX3
    clear hq
    go_wp2_with (first | (refine loadG 49 _ rfl rfl rfl HX3.out HV2.out.ty ?_) | (refine loadG 49 _ rfl rfl rfl HX4.out HV2.out.ty ?_) | (refine eqlG_step 49 _ _ _ rfl rfl rfl rfl grd_end (HV2.out.eq _) ?_))
    go_ret
    exact ⟨rfl, HE7.out.out⟩
  · rw [decide_eq_false hle]
    clear hle
    go_wp2
    go_ret
    exact ⟨rfl, HE5.out.out⟩
set_option maxRecDepth 100000 in
theorem lifted (os : Os) (started : os.Started) (H : Type) (enc : TypeId × Value → H) :
    ReturnsInHanded {} Try.checked os 8 .any (Rows.topSameSpec.pre6 enc Try.prog Try.f8 Rows.topSameRow.domain false) (Rows.topSameSpec.post enc Try.prog Try.f8 false true false false) := by
  refine returnsInHanded_of_change_sized (C := Try.checked) own started (by kernel_rfl) Try.func8
    (ChangeSpec.witness6 (enc := enc) (C := Try.checked) false ⟨#[], #[.slice none 0 0, .slice none 0 0, .slice none 0 0], []⟩ 8 (by kernel_rfl) (by kernel_rfl) (by kernel_rfl) (by kernel_rfl)) ?_
  intro W base args ds gs before hval0 hW hcnd hsz0 _
  have hsz : (DataW.weightsEach Try.prog (Try.f8.params.toList ++ Rows.topSameSpec.plain.varTypes Try.prog) (ds ++ gs)).all (· ≤ reachBytes) = true := hsz0
  clear hsz0
  have hval : ∀ (j : Nat) t v, Try.f8.params[j]? = some t → args[j]? = some v → Value.okWide Try.prog W .any base t v := hval0
  have hW' := hW
  obtain ⟨p, q, hA0, hV, rfl, hfz, hnd⟩ := hW
  have hA : DataW.TrodAll enc Try.prog W 0 (fun _ => true) true Try.f8.params.toList args.toList ds p := hA0
  rw [Try.params8] at hA hval hsz
  obtain ⟨v0, vs0, d0, ds0, p0, q0, hargs, rfl, rfl, h0, r0⟩ := trodAll_cons hA
  obtain ⟨v1, vs1, d1, ds1, p1, q1, rfl, rfl, rfl, h1, r1⟩ := trodAll_cons r0
  obtain ⟨v2, vs2, d2, ds2, p2, q2, rfl, rfl, rfl, h2, r2⟩ := trodAll_cons r1
  obtain ⟨rfl, rfl, rfl⟩ := trodAll_nil r2
  obtain rfl : args = #[v0, v1, v2] := by cases args; simp_all
  obtain ⟨rfl, rfl⟩ := trodVars_none hV
  have t0 := h0
  have lt0 : ∀ x ∈ p0, x.block < W.heap.size := by obtain ⟨m, hm⟩ := t0; exact DataW.trod_lt m _ _ _ hm
  have t1 := h1
  have lt1 : ∀ x ∈ p1, x.block < W.heap.size := by obtain ⟨m, hm⟩ := t1; exact DataW.trod_lt m _ _ _ hm
  have t2 := h2
  have lt2 : ∀ x ∈ p2, x.block < W.heap.size := by obtain ⟨m, hm⟩ := t2; exact DataW.trod_lt m _ _ _ hm
  obtain ⟨A0, n0, c0, l0, rfl, s0, m0, x0, g0⟩ := open_ops Try.underlying44 (by kernel_rfl) Try.underlying61 Try.underlying63 ⟨rfl, rfl, rfl⟩ (by kernel_rfl) (by kernel_rfl) Try.underlying3 (hval 0 44 v0 rfl rfl) h0
  obtain ⟨A1, n1, c1, l1, rfl, s1, m1, x1, g1⟩ := open_ints_arg Try.underlying23 Try.underlying3 (by kernel_rfl) (hval 1 23 v1 rfl rfl) h1
  obtain ⟨A2, n2, c2, l2, rfl, s2, m2, x2, g2⟩ := open_ints_arg Try.underlying23 Try.underlying3 (by kernel_rfl) (hval 2 23 v2 rfl rfl) h2
  clear hA0 hval0
  refine (walkH pgrun_c works_any W A0 n0 c0 l0 s0 m0 x0 g0 A1 n1 c1 l1 s1 m1 x1 g1 A2 n2 c2 l2 s2 m2 x2 g2).mono fun e W' ⟨he, bel⟩ => ?_
  subst he
  exact ⟨_, rfl, _, _, _, [], _, [], hW', trodAll_mk1 (shut_bool Try.underlying4 _), (trodAll_cons_mk (Below.trod laidOut (by kernel_rfl) (of_decide_eq_true (by kernel_rfl)) t0 bel lt0) (trodAll_cons_mk (Below.trod laidOut (by kernel_rfl) (of_decide_eq_true (by kernel_rfl)) t1 bel lt1) (trodAll_cons_mk (Below.trod laidOut (by kernel_rfl) (of_decide_eq_true (by kernel_rfl)) t2 bel lt2) trodAll_mk0))), rfl, bel.frame _, fun h => by cases h⟩

theorem over : Rows.topSameRow.holds Try.pinned (OpenSpec.ofChange Rows.topSameSpec) :=
  OpenClaim.holds_of_wide 8 Try.f8 rfl rfl rfl rfl rfl rfl rfl ⟨rfl, rfl, rfl, rfl, rfl⟩ rfl rfl rfl rfl rfl (by kernel_rfl) Try.func8 (by kernel_rfl)
    (of_decide_eq_true (by kernel_rfl)) (by unfold Func.isWrapper; first | (rw [if_pos (by decide +kernel)]; kernel_rfl) | (rw [if_neg (by decide +kernel)]; exact ⟨rfl, rfl⟩))
    (fun os started H enc _ => lifted os started H enc)

theorem proved : Rows.TopSameSaid := over
#print axioms proved
end Go.Proofs.Ytjddahidkodieaa.LTopSame
