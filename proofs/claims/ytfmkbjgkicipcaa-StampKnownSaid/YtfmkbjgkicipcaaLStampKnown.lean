/- 'deadheatkeep.StampKnown' returns true for every input and leaves its arguments as they are. No condition. -/
import Derived.Test.YtfmkbjgkicipcaaOpenTr
import Derived.Test.YtfmkbjgkicipcaaKeepSt
import Derived.Test.YtfmkbjgkicipcaaKnows2
import Derived.Test.YtfmkbjgkicipcaaRest
set_option linter.all false
set_option maxRecDepth 100000
namespace Go.Proofs.Ytfmkbjgkicipcaa.LStampKnown
open Go Go.ChangeShapes Go.WideShapes Go.ChangeAt Go.RowKit

set_option maxHeartbeats 4000000 in
theorem walk (W : World) (A : Option Addr) (n c : Nat) (l : List Ev) (s : Sl W A n l) (m : n ≤ c) (x : c ≤ maxLen) (g : ∀ e ∈ l, EvOk e) (t : Int) (kt : In64 t) :
    Calls Try.prog 9 #[.slice A n c, .int .i64 t] W fun e w' => e = .returned (.bool true) ∧ Below W.heap.size W w' := by
  unfold maxLen at x
  have hw0 : Bel W W := Bel.refl _
  have HL := Lib.hid s
  have HN := Lib.hid s.1
  have HKT := Lib.hid kt
  have G := grdC
  have hk0 : 0 ≤ t % 6 := Int.emod_nonneg t (by omega)
  have hk1 : t % 6 < 6 := Int.emod_lt_of_pos t (by omega)
  clear s g kt
  cases h1 : (may l == 0)
  · have HM := Lib.hid (show may l ≠ 0 by simpa using h1)
    have h1' : (may l != 0) = true := by simpa using h1
    go_enter Try.func9, Try.ntmps9
    go_wp2_with fail
    refine (stamped_any _).mono ?_
    rintro e1 w1 ⟨rfl, hb1⟩
    have hw1 := hw0.call hb1
    clear hb1
    go_wp2_with fail
    refine (stamps_bad A n c l _ (HL.out.bel hw1) HM.out).mono ?_
    rintro e2 w2 ⟨rfl, hb2⟩
    have hw2 := hw1.call hb2
    clear hb2
    go_wp2_with fail
    refine (rest_any t 6 HKT.out (by omega) (by omega) _).mono ?_
    rintro _ _ ⟨rfl, rfl⟩
    go_wp2_with fail
    refine (knows_bad A n c l (t % 6) _ (HL.out.bel hw2) HM.out).mono ?_
    rintro e3 w3 ⟨rfl, hb3⟩
    have hw3 := hw2.call hb3
    clear hb3
    have hw4 := hw3.call (cwld_below w3 (fun _ => 0) 31)
    go_wp2_with (first | (refine cwld_store ty28 _ _ rfl rfl (c := fun _ => 0) _ rfl rfl rfl ?_))
    go_ret
    exact ⟨rfl, hw4⟩
  · have hm : may l = 0 := eq_of_beq h1
    have HM := Lib.hid hm
    have h1' : (may l != 0) = false := by simp [hm]
    have hne : ((n : Int) != (n : Int)) = false := by simp
    have hn80 : n ≤ 80 := by rw [← HN.out]; exact ((may_iff l).1 hm).1
    have hRT := rest_any t 6 HKT.out (by omega) (by omega)
    obtain ⟨k, hk⟩ := Int.eq_ofNat_of_zero_le hk0
    rw [hk] at hk1 hRT
    have hk6 : k < 6 := by omega
    have HRT := Lib.hid hRT
    have f0 : IntKind.i64.wrap ((n : Int) - 1) = n - 1 := IntWalk.i64_in _ (by omega)
    clear hm hRT hk hk0 hk1
    go_enter Try.func9, Try.ntmps9
    go_wp2_with fail
    refine (stamped_any _).mono ?_
    rintro e1 w1 ⟨rfl, hb1⟩
    have hw1 := hw0.call hb1
    clear hb1
    go_wp2_with fail
    refine (stamps_ok A n c l _ (HL.out.bel hw1) HM.out).mono ?_
    rintro e2 w2 ⟨B, rfl, hck, hge, hb2⟩
    have hw2 := hw1.call hb2
    clear hb2
    have HCK := Lib.hid hck
    clear hck hge
    go_wp2_with fail
    refine (HRT.out _).mono ?_
    rintro _ _ ⟨rfl, rfl⟩
    go_wp2_with fail
    refine (knows_ok A n c l k _ (HL.out.bel hw2) HM.out hk6).mono ?_
    rintro e3 w3 ⟨rfl, hb3⟩
    have hw3 := hw2.call hb3
    replace HCK := Lib.hid (HCK.out.bel (Bel.of hb3))
    clear hb3
    have HA := Lib.hid (cwld_box w3 (lastC l k n) 31)
    have HCK4 := Lib.hid (HCK.out.bel (cwld_below w3 (lastC l k n) 31))
    have HW4 := Lib.hid (hw3.call (cwld_below w3 (lastC l k n) 31))
    clear hw3 hw2 hw1 hw0 HCK
    go_wp2_with (first | (refine cwld_store ty28 _ _ rfl rfl (c := lastC l k n) _ rfl rfl rfl ?_))
    generalize cwld w3 (lastC l k n) 31 = w4 at *
    go_loopw [9] (fun t9 wr => ∃ (j : Nat) (z : Int), j ≤ n ∧ z = (j : Int) - 1 ∧ t9 = .int .i64 z ∧ lastC l k n = lastC l k j ∧ Bel w4 wr) (fun t9 _ => (intOf t9 + 1).toNat)
    case atStart => exact ⟨n, _, Nat.le_refl _, rfl, rfl, rfl, Bel.refl _⟩
    case round =>
      obtain ⟨j, z, hj, hz, rfl, hlc, hbr⟩ := hrel
      have HB := Lib.hid hbr
      have HLC := Lib.hid hlc
      have HA5 := HA.out.bel hbr
      have HE := Lib.hid (HW4.out.trans hbr)
      clear hbr hlc f0
      by_cases h0 : j = 0
      · subst h0
        obtain rfl : z = -1 := by omega
        clear hz hj
        have E : ∀ w, (binOp .eql 31 (.agg (clk (lastC l k n))) (.agg #[.int .i64 0, .int .i64 0, .int .i64 0, .int .i64 0, .int .i64 0, .int .i64 0])).run Try.prog w = .ok (.bool true) w := fun w => by
          have := eqlC (fun _ => 0) (fun _ => 0) w
          rw [eqc_self] at this
          rw [HLC.out]
          exact this
        go_wp2_with (first | (refine loadB _ _ rfl rfl rfl HA5 ty28 ?_))
        go_ret
        exact ⟨rfl, HE.out⟩
      · obtain ⟨a, rfl⟩ : ∃ a, j = a + 1 := ⟨j - 1, by omega⟩
        obtain rfl : z = a := by omega
        clear hz h0
        have han : a < n := by omega
        have ha : (a : Int) < n := by omega
        have ha0 : (0 : Int) ≤ (a : Int) := by omega
        obtain ⟨bb, off, e, rfl, hbb, he, hrg⟩ := HL.out.at_ han
        have e1 : wr.cell? ⟨bb, off + a * 3 + 1, none⟩ = some (.int .i64 e.t) := (rangeAt_below HE.out.out hbb hrg) 1 _ rfl
        have HED := Lib.hid (evD_at he)
        have f1 : IntKind.i64.wrap ((a : Int) - 1) = a - 1 := IntWalk.i64_in _ (by omega)
        clear he hrg
        cases hq : (e.t == (k : Int))
        · have HX := Lib.hid (show lastC l k n = lastC l k a by rw [HLC.out]; exact lastC_no (by rw [HED.out]; simpa using hq))
          clear HA5
          go_wp2
          go_roundw
          case rel => exact ⟨a, _, by omega, rfl, rfl, HX.out, HB.out⟩
          case measure => simp [intOf]
        · have hX : lastC l k n = kc l a := by rw [HLC.out]; exact lastC_yes (by rw [HED.out]; simpa using hq)
          have E : ∀ w, (binOp .eql 31 (.agg (clk (lastC l k n))) (.agg (clk (kc l a)))).run Try.prog w = .ok (.bool true) w := fun w => by
            have := eqlC (kc l a) (kc l a) w
            rw [eqc_self] at this
            rw [hX]
            exact this
          have HRI := Lib.hid (fun (w' : World) (h : Bel wr w') => (HCK4.out.bel (HB.out.trans h)).row han)
          clear hX f1
          go_wp2
          (refine region_bel (by kernel_rfl) (by kernel_rfl) ?_; (repeat (first | ((with_reducible refine BigFrame.wpQuiet_skip ?_ ?_); exact rfl; simp only [Act.put, Act.eval, List.setIfInBounds_toArray, List.set_cons_zero, List.set_cons_succ, Array.getD_eq_getD_getElem?, List.getElem?_toArray, List.getElem?_cons_zero, List.getElem?_cons_succ, Option.getD_some]) | (refine q_move _ rfl rfl ?_; simp only [Act.put, Act.eval, List.setIfInBounds_toArray, List.set_cons_zero, List.set_cons_succ, Array.getD_eq_getD_getElem?, List.getElem?_toArray, List.getElem?_cons_zero, List.getElem?_cons_succ, Option.getD_some]) | (refine q_assign _ rfl rfl ?_; simp only [Act.put, Act.eval, List.setIfInBounds_toArray, List.set_cons_zero, List.set_cons_succ, Array.getD_eq_getD_getElem?, List.getElem?_toArray, List.getElem?_cons_zero, List.getElem?_cons_succ, Option.getD_some]) | (refine q_load _ _ rfl rfl rfl HA5 ty28 ?_; simp only [Act.put, Act.eval, List.setIfInBounds_toArray, List.set_cons_zero, List.set_cons_succ, Array.getD_eq_getD_getElem?, List.getElem?_toArray, List.getElem?_cons_zero, List.getElem?_cons_succ, Option.getD_some]) | (refine q_load_mid 31 _ rfl rfl rfl HRI.out ty28 (clk (kc l a)) rfl ?_; simp only [Act.put, Act.eval, List.setIfInBounds_toArray, List.set_cons_zero, List.set_cons_succ, Array.getD_eq_getD_getElem?, List.getElem?_toArray, List.getElem?_cons_zero, List.getElem?_cons_succ, Option.getD_some]) | (refine q_any rfl ?_; apply Exists.intro; refine ⟨fun w hw => ?_, ?_⟩; (go_simp; first | exact ⟨rfl, rfl⟩ | rfl); simp only [Act.put, Act.eval, List.setIfInBounds_toArray, List.set_cons_zero, List.set_cons_succ, Array.getD_eq_getD_getElem?, List.getElem?_toArray, List.getElem?_cons_zero, List.getElem?_cons_succ, Option.getD_some]))); refine wpQuiet_nil ?_; intro w2 hw2)
          have HE2 := Lib.hid (HE.out.trans hw2)
          clear hw2
          go_wp2
          go_ret
          exact ⟨rfl, HE2.out⟩

set_option maxRecDepth 100000 in
theorem lifted (os : Os) (started : os.Started) (H : Type) (enc : TypeId × Value → H) :
    ReturnsInHanded {} Try.checked os 9 .any (Rows.stampKnownSpec.pre6 enc Try.prog Try.f9 Rows.stampKnownRow.domain false) (Rows.stampKnownSpec.post enc Try.prog Try.f9 false true false false) := by
  refine returnsInHanded_of_change_sized (C := Try.checked) own started (by kernel_rfl) Try.func9
    (ChangeSpec.witness6 (enc := enc) (C := Try.checked) false ⟨#[], #[.slice none 0 0, .int .i64 0], []⟩ 8 (by kernel_rfl) (by kernel_rfl) (by kernel_rfl) (by kernel_rfl)) ?_
  intro W base args ds gs before hval0 hW hcnd hsz0 _
  have hsz : (DataW.weightsEach Try.prog (Try.f9.params.toList ++ Rows.stampKnownSpec.plain.varTypes Try.prog) (ds ++ gs)).all (· ≤ reachBytes) = true := hsz0
  clear hsz0
  have hval : ∀ (j : Nat) t v, Try.f9.params[j]? = some t → args[j]? = some v → Value.okWide Try.prog W .any base t v := hval0
  have hW' := hW
  obtain ⟨p, q, hA0, hV, rfl, hfz, hnd⟩ := hW
  have hA : DataW.TrodAll enc Try.prog W 0 (fun _ => true) true Try.f9.params.toList args.toList ds p := hA0
  rw [Try.params9] at hA hval hsz
  obtain ⟨v0, vs0, d0, ds0, p0, q0, hargs, rfl, rfl, h0, r0⟩ := trodAll_cons hA
  obtain ⟨v1, vs1, d1, ds1, p1, q1, rfl, rfl, rfl, h1, r1⟩ := trodAll_cons r0
  obtain ⟨rfl, rfl, rfl⟩ := trodAll_nil r1
  obtain rfl : args = #[v0, v1] := by cases args; simp_all
  obtain ⟨rfl, rfl⟩ := trodVars_none hV
  have t0 := h0
  have lt0 : ∀ x ∈ p0, x.block < W.heap.size := by obtain ⟨m, hm⟩ := t0; exact DataW.trod_lt m _ _ _ hm
  have t1 := h1
  have lt1 : ∀ x ∈ p1, x.block < W.heap.size := by obtain ⟨m, hm⟩ := t1; exact DataW.trod_lt m _ _ _ hm
  obtain ⟨A0, n0, c0, l0, rfl, s0, m0, x0, g0, z0⟩ := open_evs Try.underlying22 Try.underlying37 ⟨rfl, rfl, rfl⟩ (by kernel_rfl) (by kernel_rfl) Try.underlying3 (hval 0 22 v0 rfl rfl) h0
  have y0 := reach_sl hsz (j := 0) rfl rfl Try.underlying22 (b := 24) (by kernel_rfl) z0
  obtain ⟨a1, rfl, _, _, x1⟩ := open_int Try.underlying3 (hval 1 3 v1 rfl rfl) h1
  have k1 := in64_of x1
  clear hA0 hval0
  refine (walk W A0 n0 c0 l0 s0 m0 x0 g0 a1 k1).mono fun e W' ⟨he, bel⟩ => ?_
  subst he
  exact ⟨_, rfl, _, _, _, [], _, [], hW', trodAll_mk1 (shut_bool Try.underlying4 _), (trodAll_cons_mk (Below.trod laidOut (by kernel_rfl) (of_decide_eq_true (by kernel_rfl)) t0 bel lt0) (trodAll_cons_mk (Below.trod laidOut (by kernel_rfl) (of_decide_eq_true (by kernel_rfl)) t1 bel lt1) trodAll_mk0)), rfl, bel.frame _, fun h => by cases h⟩

theorem over : Rows.stampKnownRow.holds Try.pinned (OpenSpec.ofChange Rows.stampKnownSpec) :=
  OpenClaim.holds_of_wide 9 Try.f9 rfl rfl rfl rfl rfl rfl rfl ⟨rfl, rfl, rfl, rfl, rfl⟩ rfl rfl rfl rfl rfl (by kernel_rfl) Try.func9 (by kernel_rfl)
    (of_decide_eq_true (by kernel_rfl)) (by unfold Func.isWrapper; first | (rw [if_pos (by decide +kernel)]; kernel_rfl) | (rw [if_neg (by decide +kernel)]; exact ⟨rfl, rfl⟩))
    (fun os started H enc _ => lifted os started H enc)

theorem proved : Rows.StampKnownSaid := over
#print axioms proved
end Go.Proofs.Ytfmkbjgkicipcaa.LStampKnown
