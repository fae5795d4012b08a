/- 'deadheatkeep.FastFirst' (FLANAGAN, FREUND) returns true for every input and leaves its arguments as they are. No condition. -/
import Derived.Test.YtbkciglapambgaaOpen
import Derived.Test.YtbkciglapambgaaKeepFa
import Derived.Test.YtbkciglapambgaaFull10
import Derived.Test.YtbkciglapambgaaFirFl
import Derived.Deep.DeepCutAuto
set_option linter.all false
set_option maxRecDepth 100000
namespace Go.Proofs.Ytbkciglapambgaa.LFastFirst
open Go Go.ChangeShapes Go.WideShapes Go.ChangeAt Go.RowKit

set_option maxHeartbeats 8000000 in
theorem walk (W : World) (A : Option Addr) (n c : Nat) (l : List Ev) (s : Sl W A n l) (m : n ≤ c) (x : c ≤ maxLen) (g : ∀ e ∈ l, EvOk e) :
    Calls Try.prog 6 #[.slice A n c] W fun e w' => e = .returned (.bool true) ∧ Below W.heap.size W w' := by
  have hw0 : Bel W W := Bel.refl _
  have HL := Lib.hid s
  have HN := Lib.hid s.1
  clear s g x m
  by_cases hm : may l = 0
  · have HM := Lib.hid hm
    have hn80 : n ≤ 80 := by rw [← HN.out]; exact ((may_iff l).1 hm).1
    have hnf : (fflags l).length ≤ 80 := by rw [fflags_ok hm, HN.out]; exact Nat.le_trans (gl_len _ l n) hn80
    have hng : (flags l).length ≤ 80 := by rw [flags_ok hm, HN.out]; exact Nat.le_trans (flT_len l n) hn80
    have HSM := Lib.hid (fun (t : Int) => fir_same2 (l := l) t)
    have HKD := Lib.hid (fun (t : Int) (h : isV t = true) => fir_kind hm h)
    have HFE := Lib.hid (fun (t : Int) (h : isV t = true) => show fstE l t = 0 by unfold fstE; rw [if_neg (by rw [hm]; simp), if_pos h])
    clear hm
    go_enter Try.func6, Try.ntmps6
    go_wp2_with fail
    refine (fasted_any _).mono ?_
    rintro e1 w1 ⟨rfl, hb1⟩
    have hw1 := hw0.call hb1
    clear hb1
    go_wp2_with fail
    refine (frun_any A n c l _ (HL.out.bel hw1)).mono ?_
    rintro e2 w2 ⟨v2, rfl, hown2, hb2⟩
    have hw2 := hw1.call hb2
    clear hb2
    rw [HM.out]
    obtain ⟨A2, c2, rfl, hs2, _⟩ := Sl.own hown2
    have HS2 := Lib.hid hs2
    clear hown2 hs2
    go_wp2_with fail
    refine (run_any A n c l _ (HL.out.bel hw2)).mono ?_
    rintro e3 w3 ⟨v3, rfl, hown3, hb3⟩
    have hw3 := hw2.call hb3
    replace HS2 := Lib.hid (HS2.out.bel (Bel.of hb3))
    clear hb3
    rw [HM.out]
    obtain ⟨A3, c3, rfl, hs3, _⟩ := Sl.own hown3
    have HS3 := Lib.hid hs3
    have HW3 := Lib.hid hw3
    clear hown3 hs3 hw3 hw2 hw1 hw0
    generalize hF : fflags l = F at *
    generalize hG : flags l = G at *
    generalize F.length = nf at *
    generalize G.length = ng at *
    clear hF hG
    go_wp2
    go_loopw [39] (fun t39 wr => ∃ t : Nat, t ≤ 8 ∧ t39 = .int .i64 t ∧ Bel w3 wr) (fun t39 _ => 8 - (intOf t39).toNat)
    case atStart => exact ⟨0, by omega, rfl, Bel.refl _⟩
    case round =>
      obtain ⟨t, ht, rfl, hr⟩ := hrel
      have HR := Lib.hid hr
      clear hr
      by_cases hlt : t < 8
      · have hlt' : (t : Int) < 8 := by omega
        have hv : isV (t : Int) = true := by unfold isV; rw [inB_iff]; omega
        have hsm := HSM.out t
        obtain ⟨hk1, hk2⟩ := HKD.out t hv
        have HE := Lib.hid (HFE.out t hv)
        obtain ⟨⟨ya, yv, yk⟩, hy⟩ : ∃ y, firFl (t : Int) G = y := ⟨_, rfl⟩
        rw [hy] at hsm hk1 hk2
        have HY := Lib.hid hy
        have HFI := Lib.hid hsm
        have HK1 := Lib.hid hk1
        have HK2 := Lib.hid hk2
        clear hv hsm hk1 hk2 hy
        go_wp2_with fail
        refine (first_any A n c l t _ (HL.out.bel (HW3.out.trans HR.out))).mono ?_
        rintro e4 w4 ⟨rfl, hb4⟩
        rw [HE.out]
        have HR4 := Lib.hid (HR.out.call hb4)
        clear hb4
        generalize fstA l t = q at *
        generalize fstI l t = b at *
        go_wp2_with fail
        refine (firfl_any A2 nf c2 F t _ (HS2.out.bel (Bel.of (HR4.out.out.mono (Nat.le_refl _)))) hnf).mono ?_
        rintro e5 w5 ⟨rfl, hb5⟩
        rw [HFI.out]
        have HR5 := Lib.hid (HR4.out.call hb5)
        have HR6 := Lib.hid (HR5.out.trans (ewld_below w5 ⟨ya, yv, yk⟩ 33))
        have HX6 := Lib.hid (ewld_box w5 ⟨ya, yv, yk⟩ 33)
        clear hb5
        go_upto_region 13 with (first | (refine ewld_store TFl _ _ rfl rfl _ rfl rfl rfl ?_))
        generalize ewld w5 ⟨ya, yv, yk⟩ 33 = w6 at *
        have HCG := Lib.hid (fun (w' : World) (h : Bel w6 w') => show Calls Try.prog 21 #[.slice A3 ng c3, .int .i64 t] w' fun e w'' => e = .returned (.agg (evv ⟨ya, yv, yk⟩)) ∧ Below w'.heap.size w' w'' by
          have h9 := firfl_any A3 ng c3 G t w' (HS3.out.bel (HR6.out.trans h)) hng
          rw [HY.out] at h9; exact h9)
        by_cases hp : 0 < yk
        · obtain rfl : b = true := by have := HK1.out; rw [decide_eq_true hp] at this; exact this
          obtain rfl : ya = q := HK2.out rfl
          have hqq : (ya != ya) = false := by simp
          have NE := neq_fl ⟨ya, yv, yk⟩ ⟨ya, yv, yk⟩
          rw [decide_eq_true rfl] at NE
          have GF := grd_fl
          have F0 := fun (w' : World) (h : Bel w6 w') => (h.box HX6.out).cell 0 (v := .int .i64 ya) rfl
          have F2 := fun (w' : World) (h : Bel w6 w') => (h.box HX6.out).cell 2 (v := .int .i64 yk) rfl
          have hx6 := HX6.out
          (refine region_bel (by kernel_rfl) (by kernel_rfl) ?_; (repeat (first | ((with_reducible refine BigFrame.wpQuiet_skip ?_ ?_); exact rfl; simp only [Act.put, Act.eval, List.setIfInBounds_toArray, List.set_cons_zero, List.set_cons_succ, Array.getD_eq_getD_getElem?, List.getElem?_toArray, List.getElem?_cons_zero, List.getElem?_cons_succ, Option.getD_some]) | (refine q_move _ rfl rfl ?_; simp only [Act.put, Act.eval, List.setIfInBounds_toArray, List.set_cons_zero, List.set_cons_succ, Array.getD_eq_getD_getElem?, List.getElem?_toArray, List.getElem?_cons_zero, List.getElem?_cons_succ, Option.getD_some]) | (refine q_assign _ rfl rfl ?_; simp only [Act.put, Act.eval, List.setIfInBounds_toArray, List.set_cons_zero, List.set_cons_succ, Array.getD_eq_getD_getElem?, List.getElem?_toArray, List.getElem?_cons_zero, List.getElem?_cons_succ, Option.getD_some]) | (refine q_load _ _ rfl rfl rfl hx6 TFl ?_; simp only [Act.put, Act.eval, List.setIfInBounds_toArray, List.set_cons_zero, List.set_cons_succ, Array.getD_eq_getD_getElem?, List.getElem?_toArray, List.getElem?_cons_zero, List.getElem?_cons_succ, Option.getD_some]) | (refine q_any rfl ?_; apply Exists.intro; refine ⟨fun w hw => ?_, ?_⟩; (have fct0 := F0 w hw; have fct1 := F2 w hw; go_simp; first | exact ⟨rfl, rfl⟩ | rfl | (go_at_call 21; (with_reducible refine ((HCG.out w hw)).mono ?_); rintro e w' ⟨rfl, hb⟩; exact ⟨rfl, hw.call hb⟩)); simp only [Act.put, Act.eval, List.setIfInBounds_toArray, List.set_cons_zero, List.set_cons_succ, Array.getD_eq_getD_getElem?, List.getElem?_toArray, List.getElem?_cons_zero, List.getElem?_cons_succ, Option.getD_some]))); refine wpQuiet_nil ?_; intro w2 hw2)
          have HW7 := Lib.hid (HR6.out.trans hw2)
          clear hw2 F0 F2 hx6
          go_wp2
          go_roundw
          case rel => exact ⟨t + 1, by omega, by go_num, HW7.out⟩
          case measure => simp [intOf]; omega
        · obtain rfl : b = false := by have := HK1.out; rw [decide_eq_false hp] at this; exact this
          have NE := neq_fl ⟨ya, yv, yk⟩ ⟨ya, yv, yk⟩
          rw [decide_eq_true rfl] at NE
          have GF := grd_fl
          have F0 := fun (w' : World) (h : Bel w6 w') => (h.box HX6.out).cell 0 (v := .int .i64 ya) rfl
          have F2 := fun (w' : World) (h : Bel w6 w') => (h.box HX6.out).cell 2 (v := .int .i64 yk) rfl
          have hx6 := HX6.out
          (refine region_bel (by kernel_rfl) (by kernel_rfl) ?_; (repeat (first | ((with_reducible refine BigFrame.wpQuiet_skip ?_ ?_); exact rfl; simp only [Act.put, Act.eval, List.setIfInBounds_toArray, List.set_cons_zero, List.set_cons_succ, Array.getD_eq_getD_getElem?, List.getElem?_toArray, List.getElem?_cons_zero, List.getElem?_cons_succ, Option.getD_some]) | (refine q_move _ rfl rfl ?_; simp only [Act.put, Act.eval, List.setIfInBounds_toArray, List.set_cons_zero, List.set_cons_succ, Array.getD_eq_getD_getElem?, List.getElem?_toArray, List.getElem?_cons_zero, List.getElem?_cons_succ, Option.getD_some]) | (refine q_assign _ rfl rfl ?_; simp only [Act.put, Act.eval, List.setIfInBounds_toArray, List.set_cons_zero, List.set_cons_succ, Array.getD_eq_getD_getElem?, List.getElem?_toArray, List.getElem?_cons_zero, List.getElem?_cons_succ, Option.getD_some]) | (refine q_load _ _ rfl rfl rfl hx6 TFl ?_; simp only [Act.put, Act.eval, List.setIfInBounds_toArray, List.set_cons_zero, List.set_cons_succ, Array.getD_eq_getD_getElem?, List.getElem?_toArray, List.getElem?_cons_zero, List.getElem?_cons_succ, Option.getD_some]) | (refine q_any rfl ?_; apply Exists.intro; refine ⟨fun w hw => ?_, ?_⟩; (have fct0 := F0 w hw; have fct1 := F2 w hw; go_simp; first | exact ⟨rfl, rfl⟩ | rfl | (go_at_call 21; (with_reducible refine ((HCG.out w hw)).mono ?_); rintro e w' ⟨rfl, hb⟩; exact ⟨rfl, hw.call hb⟩)); simp only [Act.put, Act.eval, List.setIfInBounds_toArray, List.set_cons_zero, List.set_cons_succ, Array.getD_eq_getD_getElem?, List.getElem?_toArray, List.getElem?_cons_zero, List.getElem?_cons_succ, Option.getD_some]))); refine wpQuiet_nil ?_; intro w2 hw2)
          have HW7 := Lib.hid (HR6.out.trans hw2)
          clear hw2 F0 F2 hx6
          go_wp2
          go_roundw
          case rel => exact ⟨t + 1, by omega, by go_num, HW7.out⟩
          case measure => simp [intOf]; omega
      · obtain rfl : t = 8 := by omega
        go_wp2
        go_ret
        exact ⟨rfl, HW3.out.trans HR.out⟩
  · have h1 : (may l != 0) = true := by simp [hm]
    have h2 : (may l == may l) = true := by simp
    have HF := Lib.hid (show (fflags l).length = 0 by rw [fflags_no hm]; rfl)
    clear hm
    go_enter Try.func6, Try.ntmps6
    go_wp2_with fail
    refine (fasted_any _).mono ?_
    rintro e1 w1 ⟨rfl, hb1⟩
    have hw1 := hw0.call hb1
    clear hb1
    go_wp2_with fail
    refine (frun_any A n c l _ (HL.out.bel hw1)).mono ?_
    rintro e2 w2 ⟨v2, rfl, hown2, hb2⟩
    have hw2 := hw1.call hb2
    clear hb2
    obtain ⟨A2, c2, rfl, hs2, _⟩ := Sl.own hown2
    rw [HF.out]
    clear hown2 hs2
    go_wp2_with fail
    refine (run_any A n c l _ (HL.out.bel hw2)).mono ?_
    rintro e3 w3 ⟨v3, rfl, hown3, hb3⟩
    have hw3 := hw2.call hb3
    clear hb3
    clear hown3
    go_wp2
    go_ret
    exact ⟨rfl, hw3⟩

set_option maxRecDepth 100000 in
theorem lifted (os : Os) (started : os.Started) (H : Type) (enc : TypeId × Value → H) :
    ReturnsInHanded {} Try.checked os 6 .any (Rows.fastFirstSpec.pre6 enc Try.prog Try.f6 Rows.fastFirstRow.domain false) (Rows.fastFirstSpec.post enc Try.prog Try.f6 false true false false) := by
  refine returnsInHanded_of_change_sized (C := Try.checked) own started (by kernel_rfl) Try.func6
    (ChangeSpec.witness6 (enc := enc) (C := Try.checked) false ⟨#[], #[.slice none 0 0], []⟩ 8 (by kernel_rfl) (by kernel_rfl) (by kernel_rfl) (by kernel_rfl)) ?_
  intro W base args ds gs before hval0 hW hcnd hsz0 _
  have hsz : (DataW.weightsEach Try.prog (Try.f6.params.toList ++ Rows.fastFirstSpec.plain.varTypes Try.prog) (ds ++ gs)).all (· ≤ reachBytes) = true := hsz0
  clear hsz0
  have hval : ∀ (j : Nat) t v, Try.f6.params[j]? = some t → args[j]? = some v → Value.okWide Try.prog W .any base t v := hval0
  have hW' := hW
  obtain ⟨p, q, hA0, hV, rfl, hfz, hnd⟩ := hW
  have hA : DataW.TrodAll enc Try.prog W 0 (fun _ => true) true Try.f6.params.toList args.toList ds p := hA0
  rw [Try.params6] at hA hval hsz
  obtain ⟨v0, vs0, d0, ds0, p0, q0, hargs, rfl, rfl, h0, r0⟩ := trodAll_cons hA
  obtain ⟨rfl, rfl, rfl⟩ := trodAll_nil r0
  obtain rfl : args = #[v0] := by cases args; simp_all
  obtain ⟨rfl, rfl⟩ := trodVars_none hV
  have t0 := h0
  have lt0 : ∀ x ∈ p0, x.block < W.heap.size := by obtain ⟨m, hm⟩ := t0; exact DataW.trod_lt m _ _ _ hm
  obtain ⟨A0, n0, c0, l0, rfl, s0, m0, x0, g0, z0⟩ := open_evs Try.underlying22 Try.underlying50 ⟨rfl, rfl, rfl⟩ (by kernel_rfl) (by kernel_rfl) Try.underlying3 (hval 0 22 v0 rfl rfl) h0
  have y0 := reach_sl hsz (j := 0) rfl rfl Try.underlying22 (b := 24) (by kernel_rfl) z0
  clear hA0 hval0
  refine (walk W A0 n0 c0 l0 s0 m0 x0 g0).mono fun e W' ⟨he, bel⟩ => ?_
  subst he
  exact ⟨_, rfl, _, _, _, [], _, [], hW', trodAll_mk1 (shut_bool Try.underlying4 _), (trodAll_cons_mk (Below.trod laidOut (by kernel_rfl) (of_decide_eq_true (by kernel_rfl)) t0 bel lt0) trodAll_mk0), rfl, bel.frame _, fun h => by cases h⟩

theorem over : Rows.fastFirstRow.holds Try.pinned (OpenSpec.ofChange Rows.fastFirstSpec) :=
  OpenClaim.holds_of_wide 6 Try.f6 rfl rfl rfl rfl rfl rfl rfl ⟨rfl, rfl, rfl, rfl, rfl⟩ rfl rfl rfl rfl rfl (by kernel_rfl) Try.func6 (by kernel_rfl)
    (of_decide_eq_true (by kernel_rfl)) (by unfold Func.isWrapper; first | (rw [if_pos (by decide +kernel)]; kernel_rfl) | (rw [if_neg (by decide +kernel)]; exact ⟨rfl, rfl⟩))
    (fun os started H enc _ => lifted os started H enc)

theorem proved : Rows.FastFirstSaid := over
#print axioms proved
end Go.Proofs.Ytbkciglapambgaa.LFastFirst
