/- 'deadheatlaw.OrderLeads' returns true for every input and leaves its arguments as they are. No condition. -/
import Derived.Test.YtkkiflhnjpmalaaOpenTr
import Derived.Test.YtkkiflhnjpmalaaRefOr3
set_option linter.all false
set_option maxRecDepth 100000
namespace Go.Proofs.Ytkkiflhnjpmalaa.LOrderLeads
open Go Go.ChangeShapes Go.WideShapes Go.ChangeAt Go.RowKit

set_option maxHeartbeats 8000000 in
theorem walk (W : World) (A : Option Addr) (n c : Nat) (l : List Ev) (s : Sl W A n l) (m : n ≤ c) (x : c ≤ maxLen) (g : ∀ e ∈ l, EvOk e) (i : Int) (ki : In64 i) (j : Int) (kj : In64 j) :
    Calls Try.prog 5 #[.slice A n c, .int .i64 i, .int .i64 j] W fun e w' => e = .returned (.bool true) ∧ Below W.heap.size W w' := by
  unfold maxLen at x
  have hw0 : Bel W W := Bel.refl _
  have HL := Lib.hid s
  have HW := Lib.hid may_wrong
  have hN := s.1
  clear s g ki kj
  cases h1 : (may l != 0)
  · have hm : may l = 0 := by simpa using h1
    have HM := Lib.hid hm
    have hn80 : n ≤ 80 := by rw [← hN]; exact ((may_iff l).1 hm).1
    by_cases hin : inBoth l i j = true
    · have HV := Lib.hid (show leadV l i j = bef l i.toNat j.toNat by unfold leadV; rw [if_neg (by rw [hm]; decide), if_pos hin])
      have HX := Lib.hid (show leadE l i j = 0 by unfold leadE; rw [if_neg (by rw [hm]; decide), if_pos hin])
      have hb := hin
      unfold inBoth at hb
      rw [Bool.and_eq_true, hN, inB_iff, inB_iff] at hb
      obtain ⟨⟨hi0, hi1⟩, hj0, hj1⟩ := hb
      obtain ⟨a, rfl⟩ := Int.eq_ofNat_of_zero_le hi0
      obtain ⟨b, rfl⟩ := Int.eq_ofNat_of_zero_le hj0
      have ha : a < n := by omega
      have hbn : b < n := by omega
      clear hin hm h1 hN
      go_enter Try.func5, Try.ntmps5
      go_wp2_with fail
      refine (leads_any A n c l a b _ HL.out).mono ?_
      rintro e1 w1 ⟨rfl, hb1⟩
      have hw1 := hw0.call hb1
      clear hb1
      go_wp2_with fail
      refine (rmay_any A n c l _ (HL.out.bel hw1) m x).mono ?_
      rintro e2 w2 ⟨rfl, hb2⟩
      have hw2 := hw1.call hb2
      clear hb2
      rw [HX.out, HV.out, HM.out, Int.toNat_natCast, Int.toNat_natCast]
      go_wp2_with fail
      refine (wrong_any _).mono ?_
      rintro e3 w3 ⟨A3, c3, rfl, hs3, hc3, hm3, hb3⟩
      have hw3 := hw2.call hb3
      clear hb3
      have HS3 := Lib.hid hs3
      clear hs3
      go_wp2_with fail
      refine (direct_any A3 1 c3 _ _ HS3.out).mono ?_
      rintro e4 w4 ⟨v4, rfl, hown4, hb4⟩
      have hw4 := hw3.call hb4
      clear hb4
      rw [HW.out]
      clear hown4
      go_wp2_with fail
      refine (ahead_any A n c l _ (HL.out.bel hw4) hn80).mono ?_
      rintro e5 w5 ⟨O, r, rfl, hm5⟩
      have c1 := hm5.rowc ha (Nat.le_refl _)
      have c2 := hm5.cell ha hbn
      have HB5 := Lib.hid (hw4.call hm5.below)
      clear hm5 hw4
      go_wp2
      go_ret
      exact ⟨ret_val (by simp), HB5.out⟩
    · have HV := Lib.hid (show leadV l i j = false by unfold leadV; rw [if_neg (by rw [hm]; decide), if_neg hin])
      have HX := Lib.hid (show leadE l i j = 1 by unfold leadE; rw [if_neg (by rw [hm]; decide), if_neg hin])
      have hb := hin
      unfold inBoth at hb
      rw [Bool.and_eq_true, hN, inB_iff, inB_iff] at hb
      clear hin hm h1 hN
      by_cases hi0 : i < 0
      · clear hb
        go_enter Try.func5, Try.ntmps5
        go_wp2_with fail
        refine (leads_any A n c l i j _ HL.out).mono ?_
        rintro e1 w1 ⟨rfl, hb1⟩
        have hw1 := hw0.call hb1
        clear hb1
        go_wp2_with fail
        refine (rmay_any A n c l _ (HL.out.bel hw1) m x).mono ?_
        rintro e2 w2 ⟨rfl, hb2⟩
        have hw2 := hw1.call hb2
        clear hb2
        rw [HX.out, HV.out, HM.out]
        go_wp2_with fail
        refine (wrong_any _).mono ?_
        rintro e3 w3 ⟨A3, c3, rfl, hs3, hc3, hm3, hb3⟩
        have hw3 := hw2.call hb3
        clear hb3
        have HS3 := Lib.hid hs3
        clear hs3
        go_wp2_with fail
        refine (direct_any A3 1 c3 _ _ HS3.out).mono ?_
        rintro e4 w4 ⟨v4, rfl, hown4, hb4⟩
        have hw4 := hw3.call hb4
        clear hb4
        rw [HW.out]
        clear hown4
        go_wp2
        go_ret
        exact ⟨rfl, hw4⟩
      · by_cases hi1 : i < n
        · by_cases hj0 : j < 0
          · clear hb
            go_enter Try.func5, Try.ntmps5
            go_wp2_with fail
            refine (leads_any A n c l i j _ HL.out).mono ?_
            rintro e1 w1 ⟨rfl, hb1⟩
            have hw1 := hw0.call hb1
            clear hb1
            go_wp2_with fail
            refine (rmay_any A n c l _ (HL.out.bel hw1) m x).mono ?_
            rintro e2 w2 ⟨rfl, hb2⟩
            have hw2 := hw1.call hb2
            clear hb2
            rw [HX.out, HV.out, HM.out]
            go_wp2_with fail
            refine (wrong_any _).mono ?_
            rintro e3 w3 ⟨A3, c3, rfl, hs3, hc3, hm3, hb3⟩
            have hw3 := hw2.call hb3
            clear hb3
            have HS3 := Lib.hid hs3
            clear hs3
            go_wp2_with fail
            refine (direct_any A3 1 c3 _ _ HS3.out).mono ?_
            rintro e4 w4 ⟨v4, rfl, hown4, hb4⟩
            have hw4 := hw3.call hb4
            clear hb4
            rw [HW.out]
            clear hown4
            go_wp2
            go_ret
            exact ⟨rfl, hw4⟩
          · have hj1 : (n : Int) ≤ j := by omega
            clear hb
            go_enter Try.func5, Try.ntmps5
            go_wp2_with fail
            refine (leads_any A n c l i j _ HL.out).mono ?_
            rintro e1 w1 ⟨rfl, hb1⟩
            have hw1 := hw0.call hb1
            clear hb1
            go_wp2_with fail
            refine (rmay_any A n c l _ (HL.out.bel hw1) m x).mono ?_
            rintro e2 w2 ⟨rfl, hb2⟩
            have hw2 := hw1.call hb2
            clear hb2
            rw [HX.out, HV.out, HM.out]
            go_wp2_with fail
            refine (wrong_any _).mono ?_
            rintro e3 w3 ⟨A3, c3, rfl, hs3, hc3, hm3, hb3⟩
            have hw3 := hw2.call hb3
            clear hb3
            have HS3 := Lib.hid hs3
            clear hs3
            go_wp2_with fail
            refine (direct_any A3 1 c3 _ _ HS3.out).mono ?_
            rintro e4 w4 ⟨v4, rfl, hown4, hb4⟩
            have hw4 := hw3.call hb4
            clear hb4
            rw [HW.out]
            clear hown4
            go_wp2
            go_ret
            exact ⟨rfl, hw4⟩
        · have hi2 : (n : Int) ≤ i := by omega
          clear hb
          go_enter Try.func5, Try.ntmps5
          go_wp2_with fail
          refine (leads_any A n c l i j _ HL.out).mono ?_
          rintro e1 w1 ⟨rfl, hb1⟩
          have hw1 := hw0.call hb1
          clear hb1
          go_wp2_with fail
          refine (rmay_any A n c l _ (HL.out.bel hw1) m x).mono ?_
          rintro e2 w2 ⟨rfl, hb2⟩
          have hw2 := hw1.call hb2
          clear hb2
          rw [HX.out, HV.out, HM.out]
          go_wp2_with fail
          refine (wrong_any _).mono ?_
          rintro e3 w3 ⟨A3, c3, rfl, hs3, hc3, hm3, hb3⟩
          have hw3 := hw2.call hb3
          clear hb3
          have HS3 := Lib.hid hs3
          clear hs3
          go_wp2_with fail
          refine (direct_any A3 1 c3 _ _ HS3.out).mono ?_
          rintro e4 w4 ⟨v4, rfl, hown4, hb4⟩
          have hw4 := hw3.call hb4
          clear hb4
          rw [HW.out]
          clear hown4
          go_wp2
          go_ret
          exact ⟨rfl, hw4⟩
  · have hm0 : may l ≠ 0 := by simpa using h1
    have hmb : (may l == 0) = false := by simpa using h1
    have HV := Lib.hid (show leadV l i j = false by unfold leadV; rw [if_pos hm0])
    have HX := Lib.hid (show leadE l i j = may l by unfold leadE; rw [if_pos hm0])
    clear hm0 hN
    go_enter Try.func5, Try.ntmps5
    go_wp2_with fail
    refine (leads_any A n c l i j _ HL.out).mono ?_
    rintro e1 w1 ⟨rfl, hb1⟩
    have hw1 := hw0.call hb1
    clear hb1
    go_wp2_with fail
    refine (rmay_any A n c l _ (HL.out.bel hw1) m x).mono ?_
    rintro e2 w2 ⟨rfl, hb2⟩
    have hw2 := hw1.call hb2
    clear hb2
    rw [HX.out, HV.out]
    go_wp2_with fail
    refine (wrong_any _).mono ?_
    rintro e3 w3 ⟨A3, c3, rfl, hs3, hc3, hm3, hb3⟩
    have hw3 := hw2.call hb3
    clear hb3
    have HS3 := Lib.hid hs3
    clear hs3
    go_wp2_with fail
    refine (direct_any A3 1 c3 _ _ HS3.out).mono ?_
    rintro e4 w4 ⟨v4, rfl, hown4, hb4⟩
    have hw4 := hw3.call hb4
    clear hb4
    rw [HW.out]
    clear hown4
    go_wp2
    go_ret
    exact ⟨rfl, hw4⟩

set_option maxRecDepth 100000 in
theorem lifted (os : Os) (started : os.Started) (H : Type) (enc : TypeId × Value → H) :
    ReturnsInHanded {} Try.checked os 5 .any (Rows.orderLeadsSpec.pre6 enc Try.prog Try.f5 Rows.orderLeadsRow.domain false) (Rows.orderLeadsSpec.post enc Try.prog Try.f5 false true false false) := by
  refine returnsInHanded_of_change_sized (C := Try.checked) own started (by kernel_rfl) Try.func5
    (ChangeSpec.witness6 (enc := enc) (C := Try.checked) false ⟨#[], #[.slice none 0 0, .int .i64 0, .int .i64 0], []⟩ 8 (by kernel_rfl) (by kernel_rfl) (by kernel_rfl) (by kernel_rfl)) ?_
  intro W base args ds gs before hval0 hW hcnd hsz0 _
  have hsz : (DataW.weightsEach Try.prog (Try.f5.params.toList ++ Rows.orderLeadsSpec.plain.varTypes Try.prog) (ds ++ gs)).all (· ≤ reachBytes) = true := hsz0
  clear hsz0
  have hval : ∀ (j : Nat) t v, Try.f5.params[j]? = some t → args[j]? = some v → Value.okWide Try.prog W .any base t v := hval0
  have hW' := hW
  obtain ⟨p, q, hA0, hV, rfl, hfz, hnd⟩ := hW
  have hA : DataW.TrodAll enc Try.prog W 0 (fun _ => true) true Try.f5.params.toList args.toList ds p := hA0
  rw [Try.params5] at hA hval hsz
  obtain ⟨v0, vs0, d0, ds0, p0, q0, hargs, rfl, rfl, h0, r0⟩ := trodAll_cons hA
  obtain ⟨v1, vs1, d1, ds1, p1, q1, rfl, rfl, rfl, h1, r1⟩ := trodAll_cons r0
  obtain ⟨v2, vs2, d2, ds2, p2, q2, rfl, rfl, rfl, h2, r2⟩ := trodAll_cons r1
  obtain ⟨rfl, rfl, rfl⟩ := trodAll_nil r2
  obtain rfl : args = #[v0, v1, v2] := by cases args; simp_all
  obtain ⟨rfl, rfl⟩ := trodVars_none hV
  have t0 := h0
  have lt0 : ∀ x ∈ p0, x.block < W.heap.size := by obtain ⟨m, hm⟩ := t0; exact DataW.trod_lt m _ _ _ hm
  have t1 := h1
  have lt1 : ∀ x ∈ p1, x.block < W.heap.size := by obtain ⟨m, hm⟩ := t1; exact DataW.trod_lt m _ _ _ hm
  have t2 := h2
  have lt2 : ∀ x ∈ p2, x.block < W.heap.size := by obtain ⟨m, hm⟩ := t2; exact DataW.trod_lt m _ _ _ hm
  obtain ⟨A0, n0, c0, l0, rfl, s0, m0, x0, g0, z0⟩ := open_evs Try.underlying22 Try.underlying30 ⟨rfl, rfl, rfl⟩ (by kernel_rfl) (by kernel_rfl) Try.underlying3 (hval 0 22 v0 rfl rfl) h0
  have y0 := reach_sl hsz (j := 0) rfl rfl Try.underlying22 (b := 24) (by kernel_rfl) z0
  obtain ⟨a1, rfl, _, _, x1⟩ := open_int Try.underlying3 (hval 1 3 v1 rfl rfl) h1
  have k1 := in64_of x1
  obtain ⟨a2, rfl, _, _, x2⟩ := open_int Try.underlying3 (hval 2 3 v2 rfl rfl) h2
  have k2 := in64_of x2
  clear hA0 hval0
  refine (walk W A0 n0 c0 l0 s0 m0 x0 g0 a1 k1 a2 k2).mono fun e W' ⟨he, bel⟩ => ?_
  subst he
  exact ⟨_, rfl, _, _, _, [], _, [], hW', trodAll_mk1 (shut_bool Try.underlying4 _), (trodAll_cons_mk (Below.trod laidOut (by kernel_rfl) (of_decide_eq_true (by kernel_rfl)) t0 bel lt0) (trodAll_cons_mk (Below.trod laidOut (by kernel_rfl) (of_decide_eq_true (by kernel_rfl)) t1 bel lt1) (trodAll_cons_mk (Below.trod laidOut (by kernel_rfl) (of_decide_eq_true (by kernel_rfl)) t2 bel lt2) trodAll_mk0))), rfl, bel.frame _, fun h => by cases h⟩

theorem over : Rows.orderLeadsRow.holds Try.pinned (OpenSpec.ofChange Rows.orderLeadsSpec) :=
  OpenClaim.holds_of_wide 5 Try.f5 rfl rfl rfl rfl rfl rfl rfl ⟨rfl, rfl, rfl, rfl, rfl⟩ rfl rfl rfl rfl rfl (by kernel_rfl) Try.func5 (by kernel_rfl)
    (of_decide_eq_true (by kernel_rfl)) (by unfold Func.isWrapper; first | (rw [if_pos (by decide +kernel)]; kernel_rfl) | (rw [if_neg (by decide +kernel)]; exact ⟨rfl, rfl⟩))
    (fun os started H enc _ => lifted os started H enc)

theorem proved : Rows.OrderLeadsSaid := over
#print axioms proved
end Go.Proofs.Ytkkiflhnjpmalaa.LOrderLeads
