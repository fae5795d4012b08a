/- 'deadheatkeep.FullExact' (POZNIANSKY, SCHUSTER) returns true for every input and leaves its arguments as they are. No condition. -/
import Derived.Test.YtnjaeampnakbbaaOpen
import Derived.Test.YtnjaeampnakbbaaKeepFl
import Derived.Test.YtnjaeampnakbbaaFl
import Derived.Test.YtnjaeampnakbbaaSec
set_option linter.all false
set_option maxRecDepth 100000
namespace Go.Proofs.Ytnjaeampnakbbaa.LFullExact
open Go Go.ChangeShapes Go.WideShapes Go.ChangeAt Go.RowKit

set_option maxHeartbeats 8000000 in
theorem walk (W : World) (A : Option Addr) (n c : Nat) (l : List Ev) (s : Sl W A n l) (m : n ≤ c) (x : c ≤ maxLen) (g : ∀ e ∈ l, EvOk e) :
    Calls Try.prog 5 #[.slice A n c] W fun e w' => e = .returned (.bool true) ∧ Below W.heap.size W w' := by
  have hw0 : Bel W W := Bel.refl _
  have HL := Lib.hid s
  have HN := Lib.hid s.1
  clear s g x m
  by_cases hm : may l = 0
  · have HM := Lib.hid hm
    have hn80 : n ≤ 80 := by rw [← HN.out]; exact ((may_iff l).1 hm).1
    obtain ⟨fl, hfl⟩ : ∃ fl, flags l = fl := ⟨_, rfl⟩
    obtain ⟨nf, hnf⟩ : ∃ nf, fl.length = nf := ⟨_, rfl⟩
    have HAT := Lib.hid (show fl.map (·.k) = dd ((rcs l).map fB) by rw [← hfl]; exact flAt hm)
    have HFL := Lib.hid hfl
    have HNF := Lib.hid hnf
    have hnf80 : nf ≤ 80 := by rw [← hnf, ← hfl, flags_ok hm, HN.out]; exact Nat.le_trans (flT_len l n) hn80
    have HME := Lib.hid (fun (e : Ev) (h : e ∈ fl) => show ∃ j, j < n ∧ djK l j ≠ 0 ∧ e = ⟨(j : Nat), (eZ l j).o, djK l j⟩ by rw [← hfl, flags_ok hm, HN.out] at h; exact flT_mem.1 h)
    clear hm hfl hnf
    go_enter Try.func5, Try.ntmps5
    go_wp2_with fail
    refine (detected_any _).mono ?_
    rintro e1 w1 ⟨rfl, hb1⟩
    have hw1 := hw0.call hb1
    clear hb1
    go_wp2_with fail
    refine (run_any A n c l _ (HL.out.bel hw1)).mono ?_
    rintro e2 w2 ⟨v2, rfl, hown2, hb2⟩
    have hw2 := hw1.call hb2
    clear hb2
    rw [HM.out]
    rw [HFL.out, HNF.out] at hown2
    obtain ⟨A2, c2, rfl, hs2, hq2, hx2⟩ := Sl.own hown2
    have HS2 := Lib.hid hs2
    clear hown2 hs2 hq2 hx2
    go_wp2_with fail
    refine (seconds_any A n c l _ (HL.out.bel hw2)).mono ?_
    rintro e3 w3 ⟨v3, rfl, hs3, hb3⟩
    have hw3 := hw2.call hb3
    replace HS2 := Lib.hid (HS2.out.bel (Bel.of hb3))
    clear hb3
    rw [HM.out]
    rw [← HAT.out] at hs3
    obtain ⟨A3, n3, c3, rfl, hsi, hmi⟩ := SlI.form hs3
    have HSI := Lib.hid hsi
    obtain rfl : n3 = nf := by rw [← hsi.1, List.length_map]; exact HNF.out
    have HW3 := Lib.hid hw3
    clear hs3 hsi hw3 hw2 hw1 hw0
    have hne : ((n3 : Int) != (n3 : Int)) = false := by simp
    go_wp2
    go_loopw [42] (fun t42 wr => ∃ i : Nat, i ≤ n3 ∧ t42 = .int .i64 i ∧ Bel w3 wr) (fun t42 _ => n3 - (intOf t42).toNat)
    case atStart => exact ⟨0, by omega, rfl, Bel.refl _⟩
    case round =>
      obtain ⟨i, hi, rfl, hr⟩ := hrel
      have HR := Lib.hid hr
      clear hr
      by_cases hlt : i < n3
      · have hlt' : (i : Int) < n3 := by omega
        obtain ⟨fb, foff, e, rfl, hfb, he, hrg⟩ := HS2.out.at_ hlt
        obtain ⟨j, hj, hdj, rfl⟩ := HME.out e (List.mem_of_getElem? he)
        obtain ⟨sb, soff, rfl, hsc⟩ := HSI.out.2 (by omega)
        have hs := hsc i hlt
        rw [List.getElem?_map, he] at hs
        simp only [Option.map_some, Option.getD_some] at hs
        have hs4 := HR.out.cell hs
        have HJR := Lib.hid (djK_read hdj)
        obtain ⟨bb, off, ⟨ek, et, eo⟩, rfl, hbb, hle, hlr⟩ := HL.out.at_ hj
        have HEZ := Lib.hid (eZ_at hle)
        have hkz : kZ l j = ek := by unfold kZ; rw [HEZ.out]
        have HKZ := Lib.hid hkz
        have hr2 := rangeAt_below (HW3.out.trans HR.out).out hbb hlr
        have hR := Lib.hid (rangeAt_below HR.out.out hfb hrg)
        rw [HEZ.out] at hR
        dsimp only at hR
        have hj' : (j : Int) < n := by omega
        have hj0 : (0 : Int) ≤ (j : Int) := by omega
        have HB4 := ewld_below wr ⟨(j : Nat), eo, djK l j⟩ 35
        have HRX := Lib.hid (HR.out.trans HB4)
        have HX := Lib.hid (ewld_box wr ⟨(j : Nat), eo, djK l j⟩ 35)
        have s4 := Bel.cell HB4 hs4
        have l0 : (ewld wr ⟨(j : Nat), eo, djK l j⟩ 35).cell? ⟨bb, off + j * 3, none⟩ = some (.int .i64 ek) := Bel.cell HB4 (hr2 0 (.int .i64 ek) rfl)
        have l2 : (ewld wr ⟨(j : Nat), eo, djK l j⟩ 35).cell? ⟨bb, off + j * 3 + 2, none⟩ = some (.int .i64 eo) := Bel.cell HB4 (hr2 2 (.int .i64 eo) rfl)
        have hjr := HJR.out
        rw [HKZ.out] at hjr
        generalize djK l j = kd at *
        clear hs hsc hrg he hle hlr hr2 hs4 hkz hdj HB4
        go_upto_region 12 with (first | (refine load_ev TFl _ rfl rfl rfl hR.out ?_) | (refine ewld_store TFl _ _ rfl rfl _ rfl rfl rfl ?_))
        generalize ewld wr ⟨(j : Nat), eo, kd⟩ 35 = w5 at *
        have F0 := fun (w' : World) (h : Bel w5 w') => (h.box HX.out).cell 0 (v := .int .i64 j) rfl
        have F1 := fun (w' : World) (h : Bel w5 w') => (h.box HX.out).cell 1 (v := .int .i64 eo) rfl
        have F2 := fun (w' : World) (h : Bel w5 w') => (h.box HX.out).cell 2 (v := .int .i64 kd) rfl
        have F3 := fun (w' : World) (h : Bel w5 w') => h.cell s4
        have F4 := fun (w' : World) (h : Bel w5 w') => h.cell l0
        have F5 := fun (w' : World) (h : Bel w5 w') => h.cell l2
        clear s4 l0 l2 hR
        have q1 : ((j : Int) != (j : Int)) = false := by simp
        have q2 : (eo != eo) = false := by simp
        cases hk : (ek == 1)
        all_goals
          rw [hk] at hjr
          (refine region_bel (by kernel_rfl) (by kernel_rfl) ?_; (repeat (first | ((with_reducible refine BigFrame.wpQuiet_skip ?_ ?_); exact rfl; simp only [Act.put, Act.eval, List.setIfInBounds_toArray, List.set_cons_zero, List.set_cons_succ, Array.getD_eq_getD_getElem?, List.getElem?_toArray, List.getElem?_cons_zero, List.getElem?_cons_succ, Option.getD_some]) | (refine q_move _ rfl rfl ?_; simp only [Act.put, Act.eval, List.setIfInBounds_toArray, List.set_cons_zero, List.set_cons_succ, Array.getD_eq_getD_getElem?, List.getElem?_toArray, List.getElem?_cons_zero, List.getElem?_cons_succ, Option.getD_some]) | (refine q_assign _ rfl rfl ?_; simp only [Act.put, Act.eval, List.setIfInBounds_toArray, List.set_cons_zero, List.set_cons_succ, Array.getD_eq_getD_getElem?, List.getElem?_toArray, List.getElem?_cons_zero, List.getElem?_cons_succ, Option.getD_some]) | (refine q_any rfl ?_; apply Exists.intro; refine ⟨fun w hw => ?_, ?_⟩; (have fct0 := F0 w hw; have fct1 := F1 w hw; have fct2 := F2 w hw; have fct3 := F3 w hw; have fct4 := F4 w hw; have fct5 := F5 w hw; go_simp; first | exact ⟨rfl, rfl⟩ | rfl); simp only [Act.put, Act.eval, List.setIfInBounds_toArray, List.set_cons_zero, List.set_cons_succ, Array.getD_eq_getD_getElem?, List.getElem?_toArray, List.getElem?_cons_zero, List.getElem?_cons_succ, Option.getD_some]))); refine wpQuiet_nil ?_; intro w2 hw2)
          have HW2 := Lib.hid hw2
          clear hw2 F0 F1 F2 F3 F4 F5
          go_wp2
          go_roundw
          case rel => exact ⟨i + 1, by omega, by go_num, HRX.out.trans HW2.out⟩
          case measure => simp [intOf]; omega
      · obtain rfl : i = n3 := by omega
        go_wp2
        go_ret
        exact ⟨rfl, HW3.out.trans HR.out⟩
  · have h1 : (may l != 0) = true := by simp [hm]
    have h2 : (may l == may l) = true := by simp
    have HF := Lib.hid (show (flags l).length = 0 by rw [flags_no hm]; rfl)
    clear hm
    go_enter Try.func5, Try.ntmps5
    go_wp2_with fail
    refine (detected_any _).mono ?_
    rintro e1 w1 ⟨rfl, hb1⟩
    have hw1 := hw0.call hb1
    clear hb1
    go_wp2_with fail
    refine (run_any A n c l _ (HL.out.bel hw1)).mono ?_
    rintro e2 w2 ⟨v2, rfl, hown2, hb2⟩
    have hw2 := hw1.call hb2
    clear hb2
    obtain ⟨A2, c2, rfl, hs2, hq2, hx2⟩ := Sl.own hown2
    rw [HF.out]
    clear hown2 hs2 hq2 hx2
    go_wp2_with fail
    refine (seconds_any A n c l _ (HL.out.bel hw2)).mono ?_
    rintro e3 w3 ⟨v3, rfl, hs3, hb3⟩
    have hw3 := hw2.call hb3
    clear hb3
    clear hs3
    go_wp2
    go_ret
    exact ⟨rfl, hw3⟩

set_option maxRecDepth 100000 in
theorem lifted (os : Os) (started : os.Started) (H : Type) (enc : TypeId × Value → H) :
    ReturnsInHanded {} Try.checked os 5 .any (Rows.fullExactSpec.pre6 enc Try.prog Try.f5 Rows.fullExactRow.domain false) (Rows.fullExactSpec.post enc Try.prog Try.f5 false true false false) := by
  refine returnsInHanded_of_change_sized (C := Try.checked) own started (by kernel_rfl) Try.func5
    (ChangeSpec.witness6 (enc := enc) (C := Try.checked) false ⟨#[], #[.slice none 0 0], []⟩ 8 (by kernel_rfl) (by kernel_rfl) (by kernel_rfl) (by kernel_rfl)) ?_
  intro W base args ds gs before hval0 hW hcnd hsz0 _
  have hsz : (DataW.weightsEach Try.prog (Try.f5.params.toList ++ Rows.fullExactSpec.plain.varTypes Try.prog) (ds ++ gs)).all (· ≤ reachBytes) = true := hsz0
  clear hsz0
  have hval : ∀ (j : Nat) t v, Try.f5.params[j]? = some t → args[j]? = some v → Value.okWide Try.prog W .any base t v := hval0
  have hW' := hW
  obtain ⟨p, q, hA0, hV, rfl, hfz, hnd⟩ := hW
  have hA : DataW.TrodAll enc Try.prog W 0 (fun _ => true) true Try.f5.params.toList args.toList ds p := hA0
  rw [Try.params5] at hA hval hsz
  obtain ⟨v0, vs0, d0, ds0, p0, q0, hargs, rfl, rfl, h0, r0⟩ := trodAll_cons hA
  obtain ⟨rfl, rfl, rfl⟩ := trodAll_nil r0
  obtain rfl : args = #[v0] := by cases args; simp_all
  obtain ⟨rfl, rfl⟩ := trodVars_none hV
  have t0 := h0
  have lt0 : ∀ x ∈ p0, x.block < W.heap.size := by obtain ⟨m, hm⟩ := t0; exact DataW.trod_lt m _ _ _ hm
  obtain ⟨A0, n0, c0, l0, rfl, s0, m0, x0, g0, z0⟩ := open_evs Try.underlying22 Try.underlying45 ⟨rfl, rfl, rfl⟩ (by kernel_rfl) (by kernel_rfl) Try.underlying3 (hval 0 22 v0 rfl rfl) h0
  have y0 := reach_sl hsz (j := 0) rfl rfl Try.underlying22 (b := 24) (by kernel_rfl) z0
  clear hA0 hval0
  refine (walk W A0 n0 c0 l0 s0 m0 x0 g0).mono fun e W' ⟨he, bel⟩ => ?_
  subst he
  exact ⟨_, rfl, _, _, _, [], _, [], hW', trodAll_mk1 (shut_bool Try.underlying4 _), (trodAll_cons_mk (Below.trod laidOut (by kernel_rfl) (of_decide_eq_true (by kernel_rfl)) t0 bel lt0) trodAll_mk0), rfl, bel.frame _, fun h => by cases h⟩

theorem over : Rows.fullExactRow.holds Try.pinned (OpenSpec.ofChange Rows.fullExactSpec) :=
  OpenClaim.holds_of_wide 5 Try.f5 rfl rfl rfl rfl rfl rfl rfl ⟨rfl, rfl, rfl, rfl, rfl⟩ rfl rfl rfl rfl rfl (by kernel_rfl) Try.func5 (by kernel_rfl)
    (of_decide_eq_true (by kernel_rfl)) (by unfold Func.isWrapper; first | (rw [if_pos (by decide +kernel)]; kernel_rfl) | (rw [if_neg (by decide +kernel)]; exact ⟨rfl, rfl⟩))
    (fun os started H enc _ => lifted os started H enc)

theorem proved : Rows.FullExactSaid := over
#print axioms proved
end Go.Proofs.Ytnjaeampnakbbaa.LFullExact
