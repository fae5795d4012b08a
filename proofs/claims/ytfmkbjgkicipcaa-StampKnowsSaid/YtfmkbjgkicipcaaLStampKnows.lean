/- 'deadheatlaw.StampKnows' returns true for every input and leaves its arguments as they are. No condition. -/
import Derived.Test.YtfmkbjgkicipcaaOpenTr
import Derived.Test.YtfmkbjgkicipcaaKnows2
import Derived.Test.YtfmkbjgkicipcaaRefTr2
set_option linter.all false
set_option maxRecDepth 100000
namespace Go.Proofs.Ytfmkbjgkicipcaa.LStampKnows
open Go Go.ChangeShapes Go.WideShapes Go.ChangeAt Go.RowKit

set_option maxHeartbeats 4000000 in
theorem walk (W : World) (A : Option Addr) (n c : Nat) (l : List Ev) (s : Sl W A n l) (m : n ≤ c) (x : c ≤ maxLen) (g : ∀ e ∈ l, EvOk e) (t : Int) (kt : In64 t) :
    Calls Try.prog 4 #[.slice A n c, .int .i64 t] W fun e w' => e = .returned (.bool true) ∧ Below W.heap.size W w' := by
  unfold maxLen at x
  have hw0 : Bel W W := Bel.refl _
  have HL := Lib.hid s
  have HN := Lib.hid s.1
  have HMW := Lib.hid (show may [⟨0, 0, 0⟩] = 1 by decide +kernel)
  have HMZ := Lib.hid (show may [⟨0, 0, 0⟩] ≠ 0 by decide +kernel)
  have G := grdC
  have E : ∀ w, (binOp .eql 31 (.agg (clk fun _ => 0)) (.agg #[.int .i64 0, .int .i64 0, .int .i64 0, .int .i64 0, .int .i64 0, .int .i64 0])).run Try.prog w = .ok (.bool true) w := fun w => by
    have := eqlC (fun _ => 0) (fun _ => 0) w
    rw [eqc_self] at this
    exact this
  clear s g kt
  cases h1 : (may l == 0)
  · have HM := Lib.hid (show may l ≠ 0 by simpa using h1)
    have h1' : (may l != 0) = true := by simpa using h1
    go_enter Try.func4, Try.ntmps4
    go_wp2_with fail
    refine (knows_bad A n c l t _ HL.out HM.out).mono ?_
    rintro e1 w1 ⟨rfl, hb1⟩
    have hw1 := hw0.call hb1
    clear hb1
    have HA := Lib.hid (cwld_box w1 (fun _ => 0) 31)
    have hw2 := hw1.call (cwld_below w1 (fun _ => 0) 31)
    go_wp2_with (first | (refine cwld_store ty28 _ _ rfl rfl (c := fun _ => 0) _ rfl rfl rfl ?_))
    generalize cwld w1 (fun _ => 0) 31 = w2 at *
    go_wp2_with fail
    refine (rmay_any A n c l _ (HL.out.bel hw2) m x).mono ?_
    rintro e3 w3 ⟨rfl, hb3⟩
    have hw3 := hw2.call hb3
    replace HA := Lib.hid (HA.out.bel (Bel.of hb3))
    clear hb3
    go_wp2_with fail
    refine (wrong_any _).mono ?_
    rintro e4 w4 ⟨A4, c4, rfl, hs4, hd4, hd4', hb4⟩
    have hw4 := hw3.call hb4
    replace HA := Lib.hid (HA.out.bel (Bel.of hb4))
    clear hb4
    go_wp2_with fail
    refine (stamps_bad A4 1 c4 _ _ hs4 HMZ.out).mono ?_
    rintro e5 w5 ⟨rfl, hb5⟩
    have hw5 := hw4.call hb5
    replace HA := Lib.hid (HA.out.bel (Bel.of hb5))
    clear hb5
    rw [HMW.out]
    go_wp2_with (first | (refine loadB _ _ rfl rfl rfl HA.out ty28 ?_))
    go_ret
    exact ⟨rfl, hw5⟩
  · have hm : may l = 0 := eq_of_beq h1
    have HM := Lib.hid hm
    have h1' : (may l != 0) = false := by simp [hm]
    have hn80 : n ≤ 80 := by rw [← HN.out]; exact ((may_iff l).1 hm).1
    clear hm
    by_cases ht : 0 ≤ t ∧ t < 6
    · obtain ⟨k, rfl⟩ := Int.eq_ofNat_of_zero_le ht.1
      have hk6 : k < 6 := by omega
      have ht0 : ¬ ((k : Int) < 0) := by omega
      have ht5 : ¬ (5 < (k : Int)) := by omega
      have E2 : ∀ w, (binOp .eql 31 (.agg (clk (lastC l k n))) (.agg (clk (lastC l k n)))).run Try.prog w = .ok (.bool true) w := fun w => by
        have := eqlC (lastC l k n) (lastC l k n) w
        rw [eqc_self] at this
        exact this
      clear ht E
      go_enter Try.func4, Try.ntmps4
      go_wp2_with fail
      refine (knows_ok A n c l k _ HL.out HM.out hk6).mono ?_
      rintro e1 w1 ⟨rfl, hb1⟩
      have hw1 := hw0.call hb1
      clear hb1
      have HA := Lib.hid (cwld_box w1 (lastC l k n) 31)
      have hw2 := hw1.call (cwld_below w1 (lastC l k n) 31)
      go_wp2_with (first | (refine cwld_store ty28 _ _ rfl rfl (c := lastC l k n) _ rfl rfl rfl ?_))
      generalize cwld w1 (lastC l k n) 31 = w2 at *
      go_wp2_with fail
      refine (rmay_any A n c l _ (HL.out.bel hw2) m x).mono ?_
      rintro e3 w3 ⟨rfl, hb3⟩
      have hw3 := hw2.call hb3
      replace HA := Lib.hid (HA.out.bel (Bel.of hb3))
      clear hb3
      go_wp2_with fail
      refine (wrong_any _).mono ?_
      rintro e4 w4 ⟨A4, c4, rfl, hs4, hd4, hd4', hb4⟩
      have hw4 := hw3.call hb4
      replace HA := Lib.hid (HA.out.bel (Bel.of hb4))
      clear hb4
      go_wp2_with fail
      refine (stamps_bad A4 1 c4 _ _ hs4 HMZ.out).mono ?_
      rintro e5 w5 ⟨rfl, hb5⟩
      have hw5 := hw4.call hb5
      replace HA := Lib.hid (HA.out.bel (Bel.of hb5))
      clear hb5
      rw [HMW.out]
      have hb5' := (Bel.refl w5).alloc (.cells #[.int .i64 0, .int .i64 0, .int .i64 0, .int .i64 0, .int .i64 0, .int .i64 0] 31)
      have HA6 := Lib.hid (HA.out.bel hb5')
      have HWN := Lib.hid (Box.new w5 (clk fun _ => 0) 31)
      have hL6 := (HL.out.bel hw5).bel hb5'
      have HW5 := Lib.hid hw5
      clear hw5
      go_wp2_with fail
      refine (rstamps_any A n c l _ hL6 HM.out).mono ?_
      rintro e6 w6 ⟨B, rfl, hck, hge, hb6⟩
      have hlt5 : w5.heap.size < (w5.alloc (.cells #[.int .i64 0, .int .i64 0, .int .i64 0, .int .i64 0, .int .i64 0, .int .i64 0] 31)).heap.size := by simp
      have HWN6 := Lib.hid (HWN.out.below hb6 hlt5)
      have HA7 := Lib.hid (HA6.out.below hb6 HA6.out.lt)
      have HB6 := Lib.hid (hb5'.trans (Bel.of hb6))
      have HCK := Lib.hid hck
      have HNE := Lib.hid (show B ≠ w5.heap.size by simp at hge; omega)
      have hA5 : ∃ a, Box w5 a (clk (lastC l k n)) 31 ∧ a = w1.heap.size := ⟨_, HA.out, rfl⟩
      have HAL := Lib.hid HA.out.lt
      have HA5 := Lib.hid HA.out
      clear hck hge hb6 hL6 hb5' hlt5 hA5 HA6 HA7 HWN HA
      go_wp2
      go_loopw [57] (fun t57 wr => ∃ i : Nat, i ≤ n ∧ t57 = .int .i64 i ∧ Box wr w5.heap.size (clk (lastC l k i)) 31 ∧ Cks wr B n l ∧ Bel w5 wr) (fun t57 _ => n - (intOf t57).toNat)
      case atStart => exact ⟨0, by omega, rfl, HWN6.out, HCK.out, HB6.out⟩
      case round =>
        obtain ⟨i, hi, rfl, hbx, hck, hbr⟩ := hrel
        have HBX := Lib.hid hbx
        have HCK2 := Lib.hid hck
        have HBR := Lib.hid hbr
        clear hbx hck hbr HWN6 HCK HB6
        by_cases hlt : i < n
        · have hlt' : (i : Int) < n := by omega
          have hR := Lib.hid (HCK2.out.row hlt)
          obtain ⟨bb, off, e, rfl, hbb, he, hrg⟩ := HL.out.at_ hlt
          have hCB := cwld_below wr (kc l i) 31
          have HCX := Lib.hid (cwld_box wr (kc l i) 31)
          have HBX2 := Lib.hid (HBX.out.bel hCB)
          have HCK3 := Lib.hid (HCK2.out.bel hCB)
          have HBR2 := Lib.hid (HBR.out.trans hCB)
          have HED := Lib.hid (evD_at he)
          have hb0 := (rangeAt_below ((HW5.out.trans HBR2.out).out) hbb hrg) 1 _ rfl
          have e1 : (cwld wr (kc l i) 31).cell? ⟨bb, off + i * 3 + 1, none⟩ = some (.int .i64 e.t) := hb0
          clear he hrg hCB hb0
          cases hq : (e.t == (k : Int))
          · have HX := Lib.hid (show lastC l k (i + 1) = lastC l k i from lastC_no (by rw [HED.out]; simpa using hq))
            go_wp2_with (first | (refine load_ck ty28 _ rfl rfl rfl hR.out ?_) | (refine cwld_store ty28 _ _ rfl rfl (c := kc l i) _ rfl rfl rfl ?_))
            go_roundw
            case rel => exact ⟨i + 1, by omega, by go_num, by rw [HX.out]; exact HBX2.out, HCK3.out, HBR2.out⟩
            case measure => simp [intOf]; omega
          · have HX := Lib.hid (show lastC l k (i + 1) = kc l i from lastC_yes (by rw [HED.out]; simpa using hq))
            go_wp2_with (first | (refine load_ck ty28 _ rfl rfl rfl hR.out ?_) | (refine cwld_store ty28 _ _ rfl rfl (c := kc l i) _ rfl rfl rfl ?_) | (refine loadB _ _ rfl rfl rfl HCX.out ty28 ?_) | (refine storeB _ _ _ rfl rfl rfl rfl HBX2.out rfl ty28 (clk_all (kc l i)) ?_))
            go_roundw
            case rel => exact ⟨i + 1, by omega, by go_num, by rw [HX.out]; exact HBX2.out.setRow _, Box.setRow_ne HCK3.out _ _ HNE.out, HBR2.out.setRow _ (Nat.le_refl _) _⟩
            case measure => simp [intOf]; omega
        · obtain rfl : i = n := by omega
          have HA8 := Lib.hid (HA5.out.bel HBR.out)
          have HE := Lib.hid (HW5.out.trans HBR.out)
          go_wp2_with (first | (refine loadB _ _ rfl rfl rfl HA8.out ty28 ?_) | (refine loadB _ _ rfl rfl rfl HBX.out ty28 ?_))
          go_ret
          exact ⟨rfl, HE.out⟩
    · have HT := Lib.hid ht
      by_cases h0 : t < 0
      · go_enter Try.func4, Try.ntmps4
        go_wp2_with fail
        refine (knows_arg A n c l t _ HL.out HM.out HT.out).mono ?_
        rintro e1 w1 ⟨rfl, hb1⟩
        have hw1 := hw0.call hb1
        clear hb1
        have HA := Lib.hid (cwld_box w1 (fun _ => 0) 31)
        have hw2 := hw1.call (cwld_below w1 (fun _ => 0) 31)
        go_wp2_with (first | (refine cwld_store ty28 _ _ rfl rfl (c := fun _ => 0) _ rfl rfl rfl ?_))
        generalize cwld w1 (fun _ => 0) 31 = w2 at *
        go_wp2_with fail
        refine (rmay_any A n c l _ (HL.out.bel hw2) m x).mono ?_
        rintro e3 w3 ⟨rfl, hb3⟩
        have hw3 := hw2.call hb3
        replace HA := Lib.hid (HA.out.bel (Bel.of hb3))
        clear hb3
        go_wp2_with fail
        refine (wrong_any _).mono ?_
        rintro e4 w4 ⟨A4, c4, rfl, hs4, hd4, hd4', hb4⟩
        have hw4 := hw3.call hb4
        replace HA := Lib.hid (HA.out.bel (Bel.of hb4))
        clear hb4
        go_wp2_with fail
        refine (stamps_bad A4 1 c4 _ _ hs4 HMZ.out).mono ?_
        rintro e5 w5 ⟨rfl, hb5⟩
        have hw5 := hw4.call hb5
        replace HA := Lib.hid (HA.out.bel (Bel.of hb5))
        clear hb5
        rw [HMW.out]
        go_wp2_with (first | (refine loadB _ _ rfl rfl rfl HA.out ty28 ?_))
        go_ret
        exact ⟨rfl, hw5⟩
      · have h5 : 5 < t := by omega
        go_enter Try.func4, Try.ntmps4
        go_wp2_with fail
        refine (knows_arg A n c l t _ HL.out HM.out HT.out).mono ?_
        rintro e1 w1 ⟨rfl, hb1⟩
        have hw1 := hw0.call hb1
        clear hb1
        have HA := Lib.hid (cwld_box w1 (fun _ => 0) 31)
        have hw2 := hw1.call (cwld_below w1 (fun _ => 0) 31)
        go_wp2_with (first | (refine cwld_store ty28 _ _ rfl rfl (c := fun _ => 0) _ rfl rfl rfl ?_))
        generalize cwld w1 (fun _ => 0) 31 = w2 at *
        go_wp2_with fail
        refine (rmay_any A n c l _ (HL.out.bel hw2) m x).mono ?_
        rintro e3 w3 ⟨rfl, hb3⟩
        have hw3 := hw2.call hb3
        replace HA := Lib.hid (HA.out.bel (Bel.of hb3))
        clear hb3
        go_wp2_with fail
        refine (wrong_any _).mono ?_
        rintro e4 w4 ⟨A4, c4, rfl, hs4, hd4, hd4', hb4⟩
        have hw4 := hw3.call hb4
        replace HA := Lib.hid (HA.out.bel (Bel.of hb4))
        clear hb4
        go_wp2_with fail
        refine (stamps_bad A4 1 c4 _ _ hs4 HMZ.out).mono ?_
        rintro e5 w5 ⟨rfl, hb5⟩
        have hw5 := hw4.call hb5
        replace HA := Lib.hid (HA.out.bel (Bel.of hb5))
        clear hb5
        rw [HMW.out]
        go_wp2_with (first | (refine loadB _ _ rfl rfl rfl HA.out ty28 ?_))
        go_ret
        exact ⟨rfl, hw5⟩

set_option maxRecDepth 100000 in
theorem lifted (os : Os) (started : os.Started) (H : Type) (enc : TypeId × Value → H) :
    ReturnsInHanded {} Try.checked os 4 .any (Rows.stampKnowsSpec.pre6 enc Try.prog Try.f4 Rows.stampKnowsRow.domain false) (Rows.stampKnowsSpec.post enc Try.prog Try.f4 false true false false) := by
  refine returnsInHanded_of_change_sized (C := Try.checked) own started (by kernel_rfl) Try.func4
    (ChangeSpec.witness6 (enc := enc) (C := Try.checked) false ⟨#[], #[.slice none 0 0, .int .i64 0], []⟩ 8 (by kernel_rfl) (by kernel_rfl) (by kernel_rfl) (by kernel_rfl)) ?_
  intro W base args ds gs before hval0 hW hcnd hsz0 _
  have hsz : (DataW.weightsEach Try.prog (Try.f4.params.toList ++ Rows.stampKnowsSpec.plain.varTypes Try.prog) (ds ++ gs)).all (· ≤ reachBytes) = true := hsz0
  clear hsz0
  have hval : ∀ (j : Nat) t v, Try.f4.params[j]? = some t → args[j]? = some v → Value.okWide Try.prog W .any base t v := hval0
  have hW' := hW
  obtain ⟨p, q, hA0, hV, rfl, hfz, hnd⟩ := hW
  have hA : DataW.TrodAll enc Try.prog W 0 (fun _ => true) true Try.f4.params.toList args.toList ds p := hA0
  rw [Try.params4] at hA hval hsz
  obtain ⟨v0, vs0, d0, ds0, p0, q0, hargs, rfl, rfl, h0, r0⟩ := trodAll_cons hA
  obtain ⟨v1, vs1, d1, ds1, p1, q1, rfl, rfl, rfl, h1, r1⟩ := trodAll_cons r0
  obtain ⟨rfl, rfl, rfl⟩ := trodAll_nil r1
  obtain rfl : args = #[v0, v1] := by cases args; simp_all
  obtain ⟨rfl, rfl⟩ := trodVars_none hV
  have t0 := h0
  have lt0 : ∀ x ∈ p0, x.block < W.heap.size := by obtain ⟨m, hm⟩ := t0; exact DataW.trod_lt m _ _ _ hm
  have t1 := h1
  have lt1 : ∀ x ∈ p1, x.block < W.heap.size := by obtain ⟨m, hm⟩ := t1; exact DataW.trod_lt m _ _ _ hm
  obtain ⟨A0, n0, c0, l0, rfl, s0, m0, x0, g0, z0⟩ := open_evs Try.underlying22 Try.underlying37 ⟨rfl, rfl, rfl⟩ (by kernel_rfl) (by kernel_rfl) Try.underlying3 (hval 0 22 v0 rfl rfl) h0
  have y0 := reach_sl hsz (j := 0) rfl rfl Try.underlying22 (b := 24) (by kernel_rfl) z0
  obtain ⟨a1, rfl, _, _, x1⟩ := open_int Try.underlying3 (hval 1 3 v1 rfl rfl) h1
  have k1 := in64_of x1
  clear hA0 hval0
  refine (walk W A0 n0 c0 l0 s0 m0 x0 g0 a1 k1).mono fun e W' ⟨he, bel⟩ => ?_
  subst he
  exact ⟨_, rfl, _, _, _, [], _, [], hW', trodAll_mk1 (shut_bool Try.underlying4 _), (trodAll_cons_mk (Below.trod laidOut (by kernel_rfl) (of_decide_eq_true (by kernel_rfl)) t0 bel lt0) (trodAll_cons_mk (Below.trod laidOut (by kernel_rfl) (of_decide_eq_true (by kernel_rfl)) t1 bel lt1) trodAll_mk0)), rfl, bel.frame _, fun h => by cases h⟩

theorem over : Rows.stampKnowsRow.holds Try.pinned (OpenSpec.ofChange Rows.stampKnowsSpec) :=
  OpenClaim.holds_of_wide 4 Try.f4 rfl rfl rfl rfl rfl rfl rfl ⟨rfl, rfl, rfl, rfl, rfl⟩ rfl rfl rfl rfl rfl (by kernel_rfl) Try.func4 (by kernel_rfl)
    (of_decide_eq_true (by kernel_rfl)) (by unfold Func.isWrapper; first | (rw [if_pos (by decide +kernel)]; kernel_rfl) | (rw [if_neg (by decide +kernel)]; exact ⟨rfl, rfl⟩))
    (fun os started H enc _ => lifted os started H enc)

theorem proved : Rows.StampKnowsSaid := over
#print axioms proved
end Go.Proofs.Ytfmkbjgkicipcaa.LStampKnows
