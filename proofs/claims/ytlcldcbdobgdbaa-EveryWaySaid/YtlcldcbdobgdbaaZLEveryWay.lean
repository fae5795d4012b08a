import Derived.Test.YtlcldcbdobgdbaaZKeepPg
import Derived.Test.YtlcldcbdobgdbaaZEv
import Derived.Test.YtlcldcbdobgdbaaZVw
set_option linter.all false
set_option maxRecDepth 100000
namespace Go.Proofs.Ytlcldcbdobgdbaa.LEveryWay
open Go Go.ChangeShapes Go.WideShapes Go.ChangeAt Go.RowKit

set_option maxHeartbeats 16000000 in
theorem walk (W : World) (A : Option Addr) (n c : Nat) (l : List (List Ev)) (s : Prg W A n l) (m : n ≤ c) (x : c ≤ maxLen) (_g : ∀ ops ∈ l, ∀ e ∈ ops, EvOk e) :
    Calls Try.prog 7 #[.slice A n c] W fun e w' => e = .returned (.bool true) ∧ Below W.heap.size W w' := by
  have HL := Lib.hid s
  have HM := Lib.hid (And.intro m x)
  clear s m x
  go_enter Try.func7, Try.ntmps7
  go_wp2_with fail
  refine (everied_any W).mono ?_
  rintro e0 w0 ⟨rfl, hb0⟩
  have HW0 := Lib.hid (Bel.of hb0)
  clear hb0
  go_wp2_with fail
  refine (eends_any A n c l w0 (HL.out.bel HW0.out) HM.out.1 HM.out.2).mono ?_
  rintro e1 w1 ⟨v, xs, rfl, hbad, hok, hown, hb1⟩
  have HW1 := Lib.hid (HW0.out.trans (Bel.of hb1))
  clear hb1
  by_cases h0 : evC l = 0
  · have HE0 := Lib.hid h0
    have HOK := Lib.hid (hok h0)
    rw [h0]
    obtain ⟨ds, rfl⟩ := en_list (s := xs) fun x hx => ((HOK.out.all x).1 hx).form
    rw [List.length_map, ens_row] at hown
    have hpos : 0 < ds.length := by have := HOK.out.pos (evC_ok h0); simpa using this
    obtain ⟨g, cap, rfl, _, hnc, hcm, _⟩ := row_cells hown hpos
    have HOW := Lib.hid hown
    obtain ⟨k9, hk9⟩ : ∃ k9, ds.length = k9 := ⟨_, rfl⟩
    have HK := Lib.hid hk9
    rw [hk9] at hown hpos hnc ⊢
    have hncI : (k9 : Int) ≤ cap := by omega
    have hnI : (k9 : Int) ≤ 9223372036854775807 := by unfold maxLen at hcm; omega
    clear hok hbad hown hk9 h0 hpos
    go_wp2
    go_loopw [26] (fun t wr => ∃ k : Nat, k ≤ k9 ∧ t = .int .i64 k ∧ Bel w1 wr) (fun t _ => k9 - (intOf t).toNat)
    case atStart => exact ⟨0, by omega, rfl, Bel.refl _⟩
    case round =>
      obtain ⟨k, hk, rfl, hr⟩ := hrel
      have HR := Lib.hid hr
      clear hr
      by_cases hlt : k < k9
      · have hlt' : (k : Int) < k9 := by omega
        have hl1 : k < ds.length := by rw [HK.out]; exact hlt
        have HRG := Lib.hid (own_range (own_bel HOW.out HR.out) hl1)
        have HIS := Lib.hid ((HOK.out.all (enA ds[k])).1 (List.mem_map_of_mem (List.getElem_mem hl1)))
        have HPR := Lib.hid (show ∀ (j : Nat) (hj : j < k), ltI (enK (enA (ds[j]'(by omega)))) (enK (enA ds[k])) from fun j hj => by
          have := List.pairwise_iff_getElem.1 HOK.out.ord j k (by simp; omega) (by simp; omega) hj
          simpa using this)
        generalize hy : ds[k] = y at *
        have HY := Lib.hid hy
        have HDS := Lib.hid (end_ds HIS.out)
        have HY0 := Lib.hid (Box.new wr z20 33)
        have HY1 := Lib.hid (HY0.out.setRow (enA y))
        have hbw : Bel wr ((wr.alloc (.cells z20 33)).setRow wr.heap.size (enA y)) := ((Bel.refl wr).alloc _).setRow wr.heap.size (Nat.le_refl _) _
        have HBW := Lib.hid hbw
        clear hbw hy
        go_wp2_with (first | (refine load_row (l := enE y) (TEndx y) _ rfl rfl rfl HRG.out ?_) | (refine storeB 33 _ _ rfl rfl rfl rfl HY0.out rfl (by exact TEnd) (enA_one y) ?_))
        have c18 := HY1.out.cell 18 (v := .bool y.d) rfl
        have c19 := HY1.out.cell 19 (v := .bool y.k) rfl
        change Code.wp _ _ _ _ ((wr.alloc (.cells z20 33)).setRow wr.heap.size (enA y))
        generalize hW2 : ((wr.alloc (.cells z20 33)).setRow wr.heap.size (enA y)) = W2 at *
        generalize wr.heap.size = B at *
        have HR2 := Lib.hid (HR.out.trans HBW.out)
        have HYn := Lib.hid (show RowTy Try.prog 33 (enA y).size from TEnd)
        clear hW2 HBW HY0
        have HF18 := Lib.hid (fun w9 (h9 : Bel W2 w9) => h9.cell c18)
        have HF19 := Lib.hid (fun w9 (h9 : Bel W2 w9) => h9.cell c19)
        clear c18 c19
        by_cases hk0 : 0 < k
        · obtain ⟨j, hj⟩ : ∃ j, j + 1 = k := ⟨k - 1, by omega⟩
          have hl0 : j < ds.length := by rw [HK.out]; omega
          have HL0 := HPR.out j (by omega)
          have HRJ := Lib.hid (fun (w9 : World) (h9 : Bel W2 w9) => own_range (own_bel HOW.out (HR2.out.trans h9)) hl0)
          obtain ⟨b, he1, _, he3⟩ := eq_en y ds[j]
          have hb : b = false := by
            cases b
            · rfl
            · have := he3.1 rfl
              rw [← this] at HL0
              exact absurd HL0 (fun h => ltI_asym h h)
          subst hb
          clear HL0 he3 HPR HRG
          generalize ds[j] = z at *
          have hwj : IntKind.i64.wrap ((k : Int) - 1) = j := by rw [show (k : Int) - 1 = j by omega]; exact IntWalk.i64_in _ (by omega)
          have hjn : (j : Int) < k9 := by omega
          have hk0' : (0 : Int) < k := by omega
          (refine region_bel (by kernel_rfl) (by kernel_rfl) ?_; (repeat (first | ((with_reducible refine BigFrame.wpQuiet_skip ?_ ?_); exact rfl; simp only [Act.put, Act.eval, List.setIfInBounds_toArray, List.set_cons_zero, List.set_cons_succ, Array.getD_eq_getD_getElem?, List.getElem?_toArray, List.getElem?_cons_zero, List.getElem?_cons_succ, Option.getD_some]) | (refine q_move _ rfl rfl ?_; simp only [Act.put, Act.eval, List.setIfInBounds_toArray, List.set_cons_zero, List.set_cons_succ, Array.getD_eq_getD_getElem?, List.getElem?_toArray, List.getElem?_cons_zero, List.getElem?_cons_succ, Option.getD_some]) | (refine q_assign _ rfl rfl ?_; simp only [Act.put, Act.eval, List.setIfInBounds_toArray, List.set_cons_zero, List.set_cons_succ, Array.getD_eq_getD_getElem?, List.getElem?_toArray, List.getElem?_cons_zero, List.getElem?_cons_succ, Option.getD_some]) | (refine q_load _ _ rfl rfl rfl HY1.out HYn.out ?_; simp only [Act.put, Act.eval, List.setIfInBounds_toArray, List.set_cons_zero, List.set_cons_succ, Array.getD_eq_getD_getElem?, List.getElem?_toArray, List.getElem?_cons_zero, List.getElem?_cons_succ, Option.getD_some]) | (refine q_load_mid _ _ rfl rfl rfl HRJ.out (TEndx z) (enA z) rfl ?_; simp only [Act.put, Act.eval, List.setIfInBounds_toArray, List.set_cons_zero, List.set_cons_succ, Array.getD_eq_getD_getElem?, List.getElem?_toArray, List.getElem?_cons_zero, List.getElem?_cons_succ, Option.getD_some]) | (refine q_any rfl ?_; apply Exists.intro; refine ⟨fun w hw => ?_, ?_⟩; (have fct0 := HF18.out w hw; have fct1 := HF19.out w hw; go_simp; first | exact ⟨rfl, rfl⟩ | rfl); simp only [Act.put, Act.eval, List.setIfInBounds_toArray, List.set_cons_zero, List.set_cons_succ, Array.getD_eq_getD_getElem?, List.getElem?_toArray, List.getElem?_cons_zero, List.getElem?_cons_succ, Option.getD_some]))); refine wpQuiet_nil ?_; intro w2 hw2)
          clear HRJ he1
          rw [HDS.out]
          have HR3 := Lib.hid (HR2.out.trans hw2)
          have HY2 := Lib.hid (hw2.box HY1.out)
          clear hw2 HY1 HR2 HF18 HF19
          go_wp2_with (first | (refine loadB 33 _ rfl rfl rfl HY2.out (by exact TEnd) ?_))
          refine (eway_any A n c l (enA y) _ (HL.out.bel (HW1.out.trans HR3.out)) HM.out.1 HM.out.2 (enA_f y)).mono ?_
          rintro e3 w3 ⟨v3, ws, c3, rfl, hB3, ho3, hb3⟩
          obtain ⟨rfl, hway⟩ : c3 = 0 ∧ IsWay l (enA y) ws := by
            rcases hB3 with ⟨h, _⟩ | ⟨_, h, _⟩ | ⟨_, h, h2⟩
            · exact absurd HE0.out h
            · exact absurd HIS.out h
            · exact ⟨h2, h⟩
          have HWY := Lib.hid hway
          have HR4 := Lib.hid (HR3.out.trans (Bel.of hb3))
          have HY3 := Lib.hid ((Bel.of hb3).box HY2.out)
          obtain ⟨A3, d3, rfl, hs3, hn3, hm3⟩ := row_si ho3
          have HS3 := Lib.hid (And.intro hs3 (And.intro hn3 hm3))
          clear hB3 ho3 hb3 hs3 hn3 hm3 hway HY2 HR3
          go_wp2_with fail
          refine (pgrun_c A n c l A3 ws.length d3 (pks ws) w3 (HL.out.bel (HW1.out.trans HR4.out)) HM.out.1 HM.out.2 HS3.out.1 HS3.out.2.1 HS3.out.2.2).mono ?_
          rintro e4 w4 ⟨v4, x4, l4, c4, rfl, hB4, ho4, hb4⟩
          obtain ⟨hx4, _, rfl⟩ := runB_way HE0.out HWY.out.vl hB4
          rw [HWY.out.is] at hx4
          subst hx4
          have HR5 := Lib.hid (HR4.out.trans ((Bel.of hb4).trans (enw_bel w4 (enA y))))
          have HY4 := Lib.hid (((Bel.of hb4).trans (enw_bel w4 (enA y))).box HY3.out)
          have HX4 := Lib.hid (enw_box w4 (enA y))
          have HV := Lib.hid (enA_v y)
          clear hB4 ho4 hb4 HY3
          go_wp2_with (first | (refine enw_store HV.out.ty _ _ rfl rfl HV.out.size HV.out.one rfl rfl rfl ?_) | (refine loadG 33 _ rfl rfl rfl HY4.out HV.out.ty ?_) | (refine loadG 33 _ rfl rfl rfl HX4.out HV.out.ty ?_) | (refine neqG_step 33 _ _ _ rfl rfl rfl rfl grd_end (neq_self y _) ?_))
          go_roundw
          case rel => exact ⟨k + 1, by omega, by go_num, HR5.out⟩
          case measure => simp [intOf]; omega
        · have hk0' : ¬ (0 : Int) < k := by omega
          clear HRG
          (refine region_bel (by kernel_rfl) (by kernel_rfl) ?_; (repeat (first | ((with_reducible refine BigFrame.wpQuiet_skip ?_ ?_); exact rfl; simp only [Act.put, Act.eval, List.setIfInBounds_toArray, List.set_cons_zero, List.set_cons_succ, Array.getD_eq_getD_getElem?, List.getElem?_toArray, List.getElem?_cons_zero, List.getElem?_cons_succ, Option.getD_some]) | (refine q_move _ rfl rfl ?_; simp only [Act.put, Act.eval, List.setIfInBounds_toArray, List.set_cons_zero, List.set_cons_succ, Array.getD_eq_getD_getElem?, List.getElem?_toArray, List.getElem?_cons_zero, List.getElem?_cons_succ, Option.getD_some]) | (refine q_assign _ rfl rfl ?_; simp only [Act.put, Act.eval, List.setIfInBounds_toArray, List.set_cons_zero, List.set_cons_succ, Array.getD_eq_getD_getElem?, List.getElem?_toArray, List.getElem?_cons_zero, List.getElem?_cons_succ, Option.getD_some]) | (refine q_load _ _ rfl rfl rfl HY1.out HYn.out ?_; simp only [Act.put, Act.eval, List.setIfInBounds_toArray, List.set_cons_zero, List.set_cons_succ, Array.getD_eq_getD_getElem?, List.getElem?_toArray, List.getElem?_cons_zero, List.getElem?_cons_succ, Option.getD_some]) | (refine q_any rfl ?_; apply Exists.intro; refine ⟨fun w hw => ?_, ?_⟩; (have fct0 := HF18.out w hw; have fct1 := HF19.out w hw; go_simp; first | exact ⟨rfl, rfl⟩ | rfl); simp only [Act.put, Act.eval, List.setIfInBounds_toArray, List.set_cons_zero, List.set_cons_succ, Array.getD_eq_getD_getElem?, List.getElem?_toArray, List.getElem?_cons_zero, List.getElem?_cons_succ, Option.getD_some]))); refine wpQuiet_nil ?_; intro w2 hw2)
          rw [HDS.out]
          have HR3 := Lib.hid (HR2.out.trans hw2)
          have HY2 := Lib.hid (hw2.box HY1.out)
          clear hw2 HY1 HR2 HF18 HF19
          go_wp2_with (first | (refine loadB 33 _ rfl rfl rfl HY2.out (by exact TEnd) ?_))
          refine (eway_any A n c l (enA y) _ (HL.out.bel (HW1.out.trans HR3.out)) HM.out.1 HM.out.2 (enA_f y)).mono ?_
          rintro e3 w3 ⟨v3, ws, c3, rfl, hB3, ho3, hb3⟩
          obtain ⟨rfl, hway⟩ : c3 = 0 ∧ IsWay l (enA y) ws := by
            rcases hB3 with ⟨h, _⟩ | ⟨_, h, _⟩ | ⟨_, h, h2⟩
            · exact absurd HE0.out h
            · exact absurd HIS.out h
            · exact ⟨h2, h⟩
          have HWY := Lib.hid hway
          have HR4 := Lib.hid (HR3.out.trans (Bel.of hb3))
          have HY3 := Lib.hid ((Bel.of hb3).box HY2.out)
          obtain ⟨A3, d3, rfl, hs3, hn3, hm3⟩ := row_si ho3
          have HS3 := Lib.hid (And.intro hs3 (And.intro hn3 hm3))
          clear hB3 ho3 hb3 hs3 hn3 hm3 hway HY2 HR3
          go_wp2_with fail
          refine (pgrun_c A n c l A3 ws.length d3 (pks ws) w3 (HL.out.bel (HW1.out.trans HR4.out)) HM.out.1 HM.out.2 HS3.out.1 HS3.out.2.1 HS3.out.2.2).mono ?_
          rintro e4 w4 ⟨v4, x4, l4, c4, rfl, hB4, ho4, hb4⟩
          obtain ⟨hx4, _, rfl⟩ := runB_way HE0.out HWY.out.vl hB4
          rw [HWY.out.is] at hx4
          subst hx4
          have HR5 := Lib.hid (HR4.out.trans ((Bel.of hb4).trans (enw_bel w4 (enA y))))
          have HY4 := Lib.hid (((Bel.of hb4).trans (enw_bel w4 (enA y))).box HY3.out)
          have HX4 := Lib.hid (enw_box w4 (enA y))
          have HV := Lib.hid (enA_v y)
          clear hB4 ho4 hb4 HY3
          go_wp2_with (first | (refine enw_store HV.out.ty _ _ rfl rfl HV.out.size HV.out.one rfl rfl rfl ?_) | (refine loadG 33 _ rfl rfl rfl HY4.out HV.out.ty ?_) | (refine loadG 33 _ rfl rfl rfl HX4.out HV.out.ty ?_) | (refine neqG_step 33 _ _ _ rfl rfl rfl rfl grd_end (neq_self y _) ?_))
          go_roundw
          case rel => exact ⟨k + 1, by omega, by go_num, HR5.out⟩
          case measure => simp [intOf]; omega
      · obtain rfl : k = k9 := by omega
        go_wp2
        go_ret
        exact ⟨rfl, (HW1.out.trans HR.out).out⟩
  · have hne : (evC l != 0) = true := by simpa using h0
    have hx : xs = [] := hbad h0
    subst hx
    obtain ⟨A1, c1, hv⟩ : ∃ A1 c1, v = .slice A1 0 c1 := by
      obtain ⟨A1, c1, h, _⟩ := row_slice hown
      exact ⟨A1, c1, h⟩
    subst hv
    clear hbad hok hown h0
    go_wp2
    go_ret
    exact ⟨rfl, HW1.out.out⟩
set_option maxRecDepth 100000 in
theorem lifted (os : Os) (started : os.Started) (H : Type) (enc : TypeId × Value → H) :
    ReturnsInHanded {} Try.checked os 7 .any (Rows.everyWaySpec.pre6 enc Try.prog Try.f7 Rows.everyWayRow.domain false) (Rows.everyWaySpec.post enc Try.prog Try.f7 false true false false) := by
  refine returnsInHanded_of_change_sized (C := Try.checked) own started (by kernel_rfl) Try.func7
    (ChangeSpec.witness6 (enc := enc) (C := Try.checked) false ⟨#[], #[.slice none 0 0], []⟩ 8 (by kernel_rfl) (by kernel_rfl) (by kernel_rfl) (by kernel_rfl)) ?_
  intro W base args ds gs before hval0 hW hcnd hsz0 _
  have hsz : (DataW.weightsEach Try.prog (Try.f7.params.toList ++ Rows.everyWaySpec.plain.varTypes Try.prog) (ds ++ gs)).all (· ≤ reachBytes) = true := hsz0
  clear hsz0
  have hval : ∀ (j : Nat) t v, Try.f7.params[j]? = some t → args[j]? = some v → Value.okWide Try.prog W .any base t v := hval0
  have hW' := hW
  obtain ⟨p, q, hA0, hV, rfl, hfz, hnd⟩ := hW
  have hA : DataW.TrodAll enc Try.prog W 0 (fun _ => true) true Try.f7.params.toList args.toList ds p := hA0
  rw [Try.params7] at hA hval hsz
  obtain ⟨v0, vs0, d0, ds0, p0, q0, hargs, rfl, rfl, h0, r0⟩ := trodAll_cons hA
  obtain ⟨rfl, rfl, rfl⟩ := trodAll_nil r0
  obtain rfl : args = #[v0] := by cases args; simp_all
  obtain ⟨rfl, rfl⟩ := trodVars_none hV
  have t0 := h0
  have lt0 : ∀ x ∈ p0, x.block < W.heap.size := by obtain ⟨m, hm⟩ := t0; exact DataW.trod_lt m _ _ _ hm
  obtain ⟨A0, n0, c0, l0, rfl, s0, m0, x0, g0⟩ := open_ops Try.underlying22 (by kernel_rfl) Try.underlying57 Try.underlying59 ⟨rfl, rfl, rfl⟩ (by kernel_rfl) (by kernel_rfl) Try.underlying3 (hval 0 22 v0 rfl rfl) h0
  clear hA0 hval0
  refine (walk W A0 n0 c0 l0 s0 m0 x0 g0).mono fun e W' ⟨he, bel⟩ => ?_
  subst he
  exact ⟨_, rfl, _, _, _, [], _, [], hW', trodAll_mk1 (shut_bool Try.underlying4 _), (trodAll_cons_mk (Below.trod laidOut (by kernel_rfl) (of_decide_eq_true (by kernel_rfl)) t0 bel lt0) trodAll_mk0), rfl, bel.frame _, fun h => by cases h⟩

theorem over : Rows.everyWayRow.holds Try.pinned (OpenSpec.ofChange Rows.everyWaySpec) :=
  OpenClaim.holds_of_wide 7 Try.f7 rfl rfl rfl rfl rfl rfl rfl ⟨rfl, rfl, rfl, rfl, rfl⟩ rfl rfl rfl rfl rfl (by kernel_rfl) Try.func7 (by kernel_rfl)
    (of_decide_eq_true (by kernel_rfl)) (by unfold Func.isWrapper; first | (rw [if_pos (by decide +kernel)]; kernel_rfl) | (rw [if_neg (by decide +kernel)]; exact ⟨rfl, rfl⟩))
    (fun os started H enc _ => lifted os started H enc)

theorem proved : Rows.EveryWaySaid := over
#print axioms proved
end Go.Proofs.Ytlcldcbdobgdbaa.LEveryWay
