import Derived.Test.YtlcldcbdobgdbaaZKeepPg
import Derived.Test.YtlcldcbdobgdbaaZEy
import Derived.Test.YtlcldcbdobgdbaaZEd
set_option linter.all false
set_option maxRecDepth 100000
namespace Go.Proofs.Ytlcldcbdobgdbaa.LEveryHas
open Go Go.ChangeShapes Go.WideShapes Go.ChangeAt Go.RowKit

set_option maxHeartbeats 16000000 in
theorem walk (W : World) (A : Option Addr) (n c : Nat) (l : List (List Ev)) (s : Prg W A n l) (m : n ≤ c) (x : c ≤ maxLen) (_g : ∀ ops ∈ l, ∀ e ∈ ops, EvOk e)
    (B : Option Addr) (k d : Nat) (q : List Int) (s1 : SI W B k q) (m1 : k ≤ d) (x1 : d ≤ maxLen) (_g1 : ∀ x ∈ q, In64 x) :
    Calls Try.prog 6 #[.slice A n c, .slice B k d] W fun e w' => e = .returned (.bool true) ∧ Below W.heap.size W w' := by
  have HL := Lib.hid s
  have HS := Lib.hid s1
  have HM := Lib.hid (And.intro (And.intro m x) (And.intro m1 x1))
  clear s m x s1 m1 x1
  go_enter Try.func6, Try.ntmps6
  go_wp2_with fail
  refine (everied_any W).mono ?_
  rintro e0 w0 ⟨rfl, hb0⟩
  have HW0 := Lib.hid (Bel.of hb0)
  clear hb0
  go_wp2_with fail
  refine (eends_any A n c l w0 (HL.out.bel HW0.out) HM.out.1.1 HM.out.1.2).mono ?_
  rintro e1 w1 ⟨v, xs, rfl, hbad, hok, hown, hb1⟩
  have HW1 := Lib.hid (HW0.out.trans (Bel.of hb1))
  clear hb1
  by_cases h0 : evC l = 0
  · have HOK := Lib.hid (hok h0)
    have hP := evC_ok h0
    have HPK := Lib.hid hP
    rw [h0]
    obtain ⟨ds, rfl⟩ := en_list (s := xs) fun x hx => ((HOK.out.all x).1 hx).form
    rw [List.length_map, ens_row] at hown
    have hpos : 0 < ds.length := by have := HOK.out.pos hP; simpa using this
    obtain ⟨g, cap, rfl, _, hnc, _, _⟩ := row_cells hown hpos
    have HOW := Lib.hid hown
    have hposI : (0 : Int) < ds.length := by omega
    clear hok hbad hown hP
    go_wp2_with fail
    refine (pgrun_c A n c l B k d q w1 (HL.out.bel HW1.out) HM.out.1.1 HM.out.1.2 (HS.out.keep HW1.out) HM.out.2.1 HM.out.2.2).mono ?_
    rintro e2 w2 ⟨v2, x2, l2, c2, rfl, hB2, ho2, hb2⟩
    have HW2 := Lib.hid (HW1.out.trans (Bel.of hb2))
    have HOW2 := Lib.hid (own_bel HOW.out (Bel.of hb2))
    have HV := Lib.hid (EnV.run hB2)
    have HB2 := Lib.hid hB2
    have HX2 := Lib.hid (enw_box w2 x2)
    have HE2 := Lib.hid (enw_bel w2 x2)
    clear hb2 hB2 ho2
    have hmem : c2 = 0 → ∃ y : En, x2 = enA y ∧ ((y.d || y.k) = true → enA y ∈ ds.map enA) := fun hc => by
      rcases HB2.out with ⟨h1, _, _, h4⟩ | ⟨_, _, _, _, h4⟩ | ⟨_, _, h3, _, _⟩
      · exact absurd (chk_ok.2 HPK.out) h1
      · rw [hc] at h4; cases h4
      · refine ⟨⟨nat (runP l q).mem, nat (runP l q).vol, (runP l q).has, doneP l (runP l q), stuckP l (runP l q)⟩, h3, fun hg => ?_⟩
        rw [HOK.out.all]
        refine ⟨q, goes_end.2 ?_, rfl⟩
        have hg : (doneP l (runP l q) || stuckP l (runP l q)) = true := hg
        simpa using hg
    have HMEM := Lib.hid hmem
    clear hmem
    go_upto_region 7 with (first | (refine enw_store HV.out.ty _ _ rfl rfl HV.out.size HV.out.one rfl rfl rfl ?_))
    change Code.wp _ _ _ _ (enw w2 x2)
    generalize enw w2 x2 = w3 at *
    by_cases hc2 : c2 = 0
    · obtain ⟨y, rfl, hy⟩ := HMEM.out hc2
      subst hc2
      have HY := Lib.hid hy
      have c18 := HX2.out.cell 18 (v := .bool y.d) rfl
      have c19 := HX2.out.cell 19 (v := .bool y.k) rfl
      clear hy HMEM HB2
      cases hd : y.d
      · cases hk : y.k
        · rw [hd] at c18; rw [hk] at c19
          go_wp2_with ((with_reducible refine Go.wpList_skip ?_ ?_); exact rfl; simp only [Act.put, Act.eval, List.setIfInBounds_toArray, List.set_cons_zero, List.set_cons_succ, Array.getD_eq_getD_getElem?, List.getElem?_toArray, List.getElem?_cons_zero, List.getElem?_cons_succ, Option.getD_some])
          go_ret
          exact ⟨rfl, (HW2.out.trans HE2.out).out⟩
        · have HM1 := Lib.hid (HY.out (by rw [hk]; simp))
          rw [hd] at c18; rw [hk] at c19
          clear hd hk HY
          go_wp2_with (first | ((with_reducible refine Go.wpList_skip ?_ ?_); exact rfl; simp only [Act.put, Act.eval, List.setIfInBounds_toArray, List.set_cons_zero, List.set_cons_succ, Array.getD_eq_getD_getElem?, List.getElem?_toArray, List.getElem?_cons_zero, List.getElem?_cons_succ, Option.getD_some]) | (refine loadG 33 _ rfl rfl rfl HX2.out HV.out.ty ?_))
          refine (hasend_any y (own_bel HOW2.out HE2.out)).mono ?_
          rintro e3 w4 ⟨b, rfl, hb, hb3⟩
          obtain rfl : b = true := hb.2 HM1.out
          go_wp2
          go_ret
          exact ⟨rfl, ((HW2.out.trans HE2.out).trans (Bel.of hb3)).out⟩
      · have HM1 := Lib.hid (HY.out (by rw [hd]; simp))
        rw [hd] at c18
        clear hd HY
        go_wp2_with (first | ((with_reducible refine Go.wpList_skip ?_ ?_); exact rfl; simp only [Act.put, Act.eval, List.setIfInBounds_toArray, List.set_cons_zero, List.set_cons_succ, Array.getD_eq_getD_getElem?, List.getElem?_toArray, List.getElem?_cons_zero, List.getElem?_cons_succ, Option.getD_some]) | (refine loadG 33 _ rfl rfl rfl HX2.out HV.out.ty ?_))
        refine (hasend_any y (own_bel HOW2.out HE2.out)).mono ?_
        rintro e3 w4 ⟨b, rfl, hb, hb3⟩
        obtain rfl : b = true := hb.2 HM1.out
        go_wp2
        go_ret
        exact ⟨rfl, ((HW2.out.trans HE2.out).trans (Bel.of hb3)).out⟩
    · have hc2' : (c2 != 0) = true := by simpa using hc2
      clear hc2 HMEM
      go_wp2_with ((with_reducible refine Go.wpList_skip ?_ ?_); exact rfl; simp only [Act.put, Act.eval, List.setIfInBounds_toArray, List.set_cons_zero, List.set_cons_succ, Array.getD_eq_getD_getElem?, List.getElem?_toArray, List.getElem?_cons_zero, List.getElem?_cons_succ, Option.getD_some])
      go_ret
      exact ⟨rfl, (HW2.out.trans HE2.out).out⟩
  · have hne : (evC l != 0) = true := by simpa using h0
    have hx : xs = [] := hbad h0
    subst hx
    obtain ⟨A1, c1, hv⟩ : ∃ A1 c1, v = .slice A1 0 c1 := by
      rcases hown.2 with ⟨rfl, _⟩ | ⟨g, cap, cur, rfl, _⟩
      · exact ⟨none, 0, rfl⟩
      · exact ⟨_, cap, rfl⟩
    subst hv
    clear hbad hok hown h0
    go_wp2
    go_ret
    exact ⟨rfl, HW1.out.out⟩
set_option maxRecDepth 100000 in
theorem lifted (os : Os) (started : os.Started) (H : Type) (enc : TypeId × Value → H) :
    ReturnsInHanded {} Try.checked os 6 .any (Rows.everyHasSpec.pre6 enc Try.prog Try.f6 Rows.everyHasRow.domain false) (Rows.everyHasSpec.post enc Try.prog Try.f6 false true false false) := by
  refine returnsInHanded_of_change_sized (C := Try.checked) own started (by kernel_rfl) Try.func6
    (ChangeSpec.witness6 (enc := enc) (C := Try.checked) false ⟨#[], #[.slice none 0 0, .slice none 0 0], []⟩ 8 (by kernel_rfl) (by kernel_rfl) (by kernel_rfl) (by kernel_rfl)) ?_
  intro W base args ds gs before hval0 hW hcnd hsz0 _
  have hsz : (DataW.weightsEach Try.prog (Try.f6.params.toList ++ Rows.everyHasSpec.plain.varTypes Try.prog) (ds ++ gs)).all (· ≤ reachBytes) = true := hsz0
  clear hsz0
  have hval : ∀ (j : Nat) t v, Try.f6.params[j]? = some t → args[j]? = some v → Value.okWide Try.prog W .any base t v := hval0
  have hW' := hW
  obtain ⟨p, q, hA0, hV, rfl, hfz, hnd⟩ := hW
  have hA : DataW.TrodAll enc Try.prog W 0 (fun _ => true) true Try.f6.params.toList args.toList ds p := hA0
  rw [Try.params6] at hA hval hsz
  obtain ⟨v0, vs0, d0, ds0, p0, q0, hargs, rfl, rfl, h0, r0⟩ := trodAll_cons hA
  obtain ⟨v1, vs1, d1, ds1, p1, q1, rfl, rfl, rfl, h1, r1⟩ := trodAll_cons r0
  obtain ⟨rfl, rfl, rfl⟩ := trodAll_nil r1
  obtain rfl : args = #[v0, v1] := by cases args; simp_all
  obtain ⟨rfl, rfl⟩ := trodVars_none hV
  have t0 := h0
  have lt0 : ∀ x ∈ p0, x.block < W.heap.size := by obtain ⟨m, hm⟩ := t0; exact DataW.trod_lt m _ _ _ hm
  have t1 := h1
  have lt1 : ∀ x ∈ p1, x.block < W.heap.size := by obtain ⟨m, hm⟩ := t1; exact DataW.trod_lt m _ _ _ hm
  obtain ⟨A0, n0, c0, l0, rfl, s0, m0, x0, g0⟩ := open_ops Try.underlying22 (by kernel_rfl) Try.underlying57 Try.underlying59 ⟨rfl, rfl, rfl⟩ (by kernel_rfl) (by kernel_rfl) Try.underlying3 (hval 0 22 v0 rfl rfl) h0
  obtain ⟨A1, n1, c1, l1, rfl, s1, m1, x1, g1⟩ := open_ints_arg Try.underlying36 Try.underlying3 (by kernel_rfl) (hval 1 36 v1 rfl rfl) h1
  clear hA0 hval0
  refine (walk W A0 n0 c0 l0 s0 m0 x0 g0 A1 n1 c1 l1 s1 m1 x1 g1).mono fun e W' ⟨he, bel⟩ => ?_
  subst he
  exact ⟨_, rfl, _, _, _, [], _, [], hW', trodAll_mk1 (shut_bool Try.underlying4 _), (trodAll_cons_mk (Below.trod laidOut (by kernel_rfl) (of_decide_eq_true (by kernel_rfl)) t0 bel lt0) (trodAll_cons_mk (Below.trod laidOut (by kernel_rfl) (of_decide_eq_true (by kernel_rfl)) t1 bel lt1) trodAll_mk0)), rfl, bel.frame _, fun h => by cases h⟩

theorem over : Rows.everyHasRow.holds Try.pinned (OpenSpec.ofChange Rows.everyHasSpec) :=
  OpenClaim.holds_of_wide 6 Try.f6 rfl rfl rfl rfl rfl rfl rfl ⟨rfl, rfl, rfl, rfl, rfl⟩ rfl rfl rfl rfl rfl (by kernel_rfl) Try.func6 (by kernel_rfl)
    (of_decide_eq_true (by kernel_rfl)) (by unfold Func.isWrapper; first | (rw [if_pos (by decide +kernel)]; kernel_rfl) | (rw [if_neg (by decide +kernel)]; exact ⟨rfl, rfl⟩))
    (fun os started H enc _ => lifted os started H enc)

theorem proved : Rows.EveryHasSaid := over
#print axioms proved
end Go.Proofs.Ytlcldcbdobgdbaa.LEveryHas
