/- 'deadheatkeep.FullSeen' returns true for every input and leaves its arguments as they are. No condition. -/
import Derived.Test.YtnjaeampnakbbaaOpen
import Derived.Test.YtnjaeampnakbbaaKeepFl
import Derived.Test.YtnjaeampnakbbaaRefF1
import Derived.Test.YtnjaeampnakbbaaRest
import Derived.Test.YtnjaeampnakbbaaRefTr2
set_option linter.all false
set_option maxRecDepth 100000
namespace Go.Proofs.Ytnjaeampnakbbaa.LFullSeen
open Go Go.ChangeShapes Go.WideShapes Go.ChangeAt Go.RowKit

theorem same (a : Nat → Int) (w : World) : (binOp .eql 30 (.agg (clk a)) (.agg (clk a))).run Try.prog w = .ok (.bool true) w := by
  have h := eqlC a a w
  rwa [(eqc_iff a a).2 fun _ _ => rfl] at h
theorem zero (w : World) : (binOp .eql 30 (.agg #[.int .i64 0, .int .i64 0, .int .i64 0, .int .i64 0, .int .i64 0, .int .i64 0]) (.agg #[.int .i64 0, .int .i64 0, .int .i64 0, .int .i64 0, .int .i64 0, .int .i64 0])).run Try.prog w = .ok (.bool true) w := same (fun _ => 0) w
/-- Whether thread t has read (or written) x among the first k events. -/
def hasA (l : List Ev) (q : Int) (x t k : Nat) : Bool := decide (0 < rwTo l q x t k)
theorem hasA_yes {l : List Ev} (hm : may l = 0) {q : Int} {x t k : Nat} (hk : k < l.length) (ho : oZ l k = x) (ht : tZ l k = t) : hasA l q x t (k + 1) = (hasA l q x t k || (kZ l k == q)) := by
  unfold hasA
  rw [rwTo]
  by_cases h : kZ l k = q
  · rw [if_pos ⟨h, ho, ht⟩, decide_eq_true (by have := onr_pos hm t k (by omega); omega)]
    simp [h]
  · rw [if_neg (fun hh => h hh.1)]
    simp [h]
theorem hasA_no {l : List Ev} {q : Int} {x t k : Nat} (h : ¬ (tZ l k = t ∧ oZ l k = x)) : hasA l q x t (k + 1) = hasA l q x t k := by
  unfold hasA
  rw [rwTo, if_neg (fun hh => h ⟨hh.2.2, hh.2.1⟩)]
set_option maxHeartbeats 16000000 in
theorem walk (W : World) (A : Option Addr) (n c : Nat) (l : List Ev) (s : Sl W A n l) (m : n ≤ c) (x : c ≤ maxLen) (g : ∀ e ∈ l, EvOk e) (z : Int) (kz : In64 z) :
    Calls Try.prog 7 #[.slice A n c, .int .i64 z] W fun e w' => e = .returned (.bool true) ∧ Below W.heap.size W w' := by
  unfold maxLen at x
  have hw0 : Bel W W := Bel.refl _
  have HL := Lib.hid s
  have HN := Lib.hid s.1
  have G := grdC
  have hk0 := Int.emod_nonneg z (show (8 : Int) ≠ 0 by omega)
  have hk1 := Int.emod_lt_of_pos z (show (0 : Int) < 8 by omega)
  have HRT := Lib.hid (fun w => rest_any z 8 kz (by omega) (by omega) w)
  clear s g kz
  generalize z % 8 = z' at *
  obtain ⟨y, rfl⟩ := Int.eq_ofNat_of_zero_le hk0
  have hy8 : y < 8 := by omega
  clear hk0 hk1
  by_cases hm : may l = 0
  · have HM := Lib.hid hm
    have hn80 : n ≤ 80 := by rw [← HN.out]; exact ((may_iff l).1 hm).1
    have HR := Lib.hid (show ∀ q, lastR l q (y : Int) = rwF l q l.length y from fun q => by unfold lastR; rw [if_pos ⟨hm, by omega, by omega⟩]; rfl)
    have HE := Lib.hid (show lastE l (y : Int) = 0 by unfold lastE; rw [if_pos hm, if_pos ⟨by omega, by omega⟩])
    clear hm
    go_enter Try.func7, Try.ntmps7
    go_wp2_with fail
    refine (detected_any _).mono ?_
    rintro e1 w1 ⟨rfl, hb1⟩
    have hw1 := hw0.call hb1
    clear hb1
    go_wp2_with fail
    refine (HRT.out _).mono ?_
    rintro _ _ ⟨rfl, rfl⟩
    go_wp2_with fail
    refine (last_any A n c l y _ (HL.out.bel hw1)).mono ?_
    rintro e2 w2 ⟨rfl, hb2⟩
    have hw2 := hw1.call hb2
    clear hb2
    rw [HR.out, HR.out, HE.out]
    obtain ⟨b1, b2, hB, hs⟩ := boxes2 w2 #[.int .i64 0, .int .i64 0, .int .i64 0, .int .i64 0, .int .i64 0, .int .i64 0] #[.int .i64 0, .int .i64 0, .int .i64 0, .int .i64 0, .int .i64 0, .int .i64 0] 30 30
    have HB3 := Lib.hid (show Bel w2 _ from below_setRow' (below_setRow' hB w2.heap.size (clk (ck (rwF l 1 l.length y))) (Nat.le_refl _)) (w2.heap.size + 1) (clk (ck (rwF l 2 l.length y))) (by omega))
    have b2' := b2.setRow_ne w2.heap.size (clk (ck (rwF l 1 l.length y))) (by omega)
    have HX1 := Lib.hid ((b1.setRow (clk (ck (rwF l 1 l.length y)))).setRow_ne (w2.heap.size + 1) (clk (ck (rwF l 2 l.length y))) (by omega))
    have HX2 := Lib.hid (b2'.setRow (clk (ck (rwF l 2 l.length y))))
    clear hB hs
    go_upto_region 7 with (first | (refine storeB _ _ _ rfl rfl rfl rfl b1 rfl ck28 (clk_all _) ?_) | (refine storeB _ _ _ rfl rfl rfl rfl b2' rfl ck28 (clk_all _) ?_))
    generalize hW3 : (((w2.alloc (.cells #[.int .i64 0, .int .i64 0, .int .i64 0, .int .i64 0, .int .i64 0, .int .i64 0] 30)).alloc (.cells #[.int .i64 0, .int .i64 0, .int .i64 0, .int .i64 0, .int .i64 0, .int .i64 0] 30)).setRow w2.heap.size (clk (ck (rwF l 1 l.length y)))).setRow (w2.heap.size + 1) (clk (ck (rwF l 2 l.length y))) = w3 at *
    generalize w2.heap.size = B at *
    have HW3 := Lib.hid (hw2.trans HB3.out)
    clear hW3 b1 b2 b2' hw2 hw1 hw0
    go_wp2
    go_loopw [34] (fun t34 wr => ∃ t : Nat, t ≤ 6 ∧ t34 = .int .i64 t ∧ Bel w3 wr) (fun t34 _ => 6 - (intOf t34).toNat)
    case atStart => exact ⟨0, by omega, rfl, Bel.refl _⟩
    case round =>
      obtain ⟨t, ht, rfl, hr⟩ := hrel
      have HR3 := Lib.hid hr
      clear hr
      by_cases hlt : t < 6
      · have hlt' : (t : Int) < 6 := by omega
        go_wp2
        go_loopw [9, 10, 39] (fun a b t39 wr => ∃ i : Nat, i ≤ n ∧ t39 = .int .i64 i ∧ a = .bool (hasA l 1 y t i) ∧ b = .bool (hasA l 2 y t i) ∧ Bel w3 wr) (fun _ _ t39 _ => n - (intOf t39).toNat)
        case atStart => exact ⟨0, by omega, rfl, rfl, rfl, HR3.out⟩
        case round =>
          obtain ⟨i, hi, rfl, rfl, rfl, hr⟩ := hrel
          have HR4 := Lib.hid hr
          clear hr HR3
          by_cases hli : i < n
          · have hli' : (i : Int) < n := by omega
            obtain ⟨bb, off, ⟨ek, et, eo⟩, rfl, hbb, he, hrg⟩ := HL.out.at_ hli
            have hev := wrong_isEv (wrong_at HM.out he)
            have het := isEv_t hev
            have heo := isEv_o hev
            obtain ⟨u, rfl⟩ := Int.eq_ofNat_of_zero_le het.1
            obtain ⟨o, rfl⟩ := Int.eq_ofNat_of_zero_le heo.1
            have HKZ := Lib.hid (show kZ l i = ek by unfold kZ; rw [eZ_at he])
            have HTZ := Lib.hid (show tZ l i = u by unfold tZ; rw [eZ_at he]; rfl)
            have HOZ := Lib.hid (show oZ l i = o by unfold oZ; rw [eZ_at he]; rfl)
            have HKL := Lib.hid (show i < l.length by rw [HN.out]; exact hli)
            have hR := Lib.hid (rangeAt_below (HW3.out.trans HR4.out).out hbb hrg)
            have HRX := Lib.hid (HR4.out.trans (ewld_below wr ⟨ek, u, o⟩ 45))
            have HX := Lib.hid (ewld_box wr ⟨ek, u, o⟩ 45)
            obtain ⟨c0, c1, c2⟩ := ewld_cells wr ⟨ek, u, o⟩ 45
            clear he hrg hev het heo
            have HST := Lib.hid (fun (h : ¬ (u = t ∧ o = y)) => And.intro (hasA_no (l := l) (q := 1) (x := y) (t := t) (k := i) (by rw [HTZ.out, HOZ.out]; exact h)) (hasA_no (l := l) (q := 2) (x := y) (t := t) (k := i) (by rw [HTZ.out, HOZ.out]; exact h)))
            have HSY := Lib.hid (fun (h : u = t ∧ o = y) => And.intro (hasA_yes HM.out (q := 1) (x := y) (t := t) HKL.out (by rw [HOZ.out]; exact h.2) (by rw [HTZ.out]; exact h.1)) (hasA_yes HM.out (q := 2) (x := y) (t := t) HKL.out (by rw [HOZ.out]; exact h.2) (by rw [HTZ.out]; exact h.1)))
            go_upto_region 14 with (first | (refine load_ev T36 _ rfl rfl rfl hR.out ?_) | (refine ewld_store T36 _ _ rfl rfl _ rfl rfl rfl ?_))
            generalize ewld wr ⟨ek, u, o⟩ 45 = w5 at *
            by_cases hu : u = t
            · by_cases ho : o = y
              · have hS := HSY.out ⟨hu, ho⟩
                rw [HKZ.out] at hS
                have HS := Lib.hid hS
                have hu' : ((u : Int) == (t : Int)) = true := by simp [hu]
                have ho' : ((o : Int) == (y : Int)) = true := by simp [ho]
                clear hS HST HSY hu ho
                have F0 := fun (w' : World) (h : Bel w5 w') => (h.box HX.out).cell 0 (v := .int .i64 ek) rfl
                generalize hasA l 1 y t i = p at *
                generalize hasA l 2 y t i = q at *
                go_wp2
                clear c0 c1 c2
                cases p <;> cases q
                all_goals
                  (refine region_bel (by kernel_rfl) (by kernel_rfl) ?_; (repeat (first | ((with_reducible refine BigFrame.wpQuiet_skip ?_ ?_); exact rfl; simp only [Act.put, Act.eval, List.setIfInBounds_toArray, List.set_cons_zero, List.set_cons_succ, Array.getD_eq_getD_getElem?, List.getElem?_toArray, List.getElem?_cons_zero, List.getElem?_cons_succ, Option.getD_some]) | (refine q_move _ rfl rfl ?_; simp only [Act.put, Act.eval, List.setIfInBounds_toArray, List.set_cons_zero, List.set_cons_succ, Array.getD_eq_getD_getElem?, List.getElem?_toArray, List.getElem?_cons_zero, List.getElem?_cons_succ, Option.getD_some]) | (refine q_assign _ rfl rfl ?_; simp only [Act.put, Act.eval, List.setIfInBounds_toArray, List.set_cons_zero, List.set_cons_succ, Array.getD_eq_getD_getElem?, List.getElem?_toArray, List.getElem?_cons_zero, List.getElem?_cons_succ, Option.getD_some]) | (refine q_any rfl ?_; apply Exists.intro; refine ⟨fun w hw => ?_, ?_⟩; (have fct0 := F0 w hw; go_simp; first | exact ⟨rfl, rfl⟩ | rfl); simp only [Act.put, Act.eval, List.setIfInBounds_toArray, List.set_cons_zero, List.set_cons_succ, Array.getD_eq_getD_getElem?, List.getElem?_toArray, List.getElem?_cons_zero, List.getElem?_cons_succ, Option.getD_some]))); refine wpQuiet_nil ?_; intro w2 hw2)
                  have HW7 := Lib.hid (HRX.out.trans hw2)
                  clear hw2 F0
                  go_wp2
                  go_roundw
                  case rel => exact ⟨i + 1, by omega, by go_num, by rw [HS.out.1]; simp, by rw [HS.out.2]; simp, HW7.out⟩
                  case measure => simp [intOf]; omega
              · have hS := HST.out (fun h => ho h.2)
                have HS := Lib.hid hS
                have hu' : ((u : Int) == (t : Int)) = true := by simp [hu]
                have ho' : ((o : Int) == (y : Int)) = false := by simp; omega
                clear hS HST HSY hu ho
                go_wp2
                go_roundw
                case rel => exact ⟨i + 1, by omega, by go_num, by rw [HS.out.1], by rw [HS.out.2], HRX.out⟩
                case measure => simp [intOf]; omega
            · have hS := HST.out (fun h => hu h.1)
              have HS := Lib.hid hS
              have hu' : ((u : Int) == (t : Int)) = false := by simp; omega
              clear hS HST HSY hu
              go_wp2
              go_roundw
              case rel => exact ⟨i + 1, by omega, by go_num, by rw [HS.out.1], by rw [HS.out.2], HRX.out⟩
              case measure => simp [intOf]; omega
          · obtain rfl : i = n := by omega
            have d1 := (HX1.out.bel HR4.out).cell t (clk_get _ t hlt)
            have d2 := (HX2.out.bel HR4.out).cell t (clk_get _ t hlt)
            have HQ1 := Lib.hid (show ck (rwF l 1 l.length y) t = (rwTo l 1 y t i : Nat) by rw [HN.out]; rfl)
            have HQ2 := Lib.hid (show ck (rwF l 2 l.length y) t = (rwTo l 2 y t i : Nat) by rw [HN.out]; rfl)
            rw [HQ1.out] at d1
            rw [HQ2.out] at d2
            unfold hasA
            by_cases h1 : 0 < rwTo l 1 y t i
            · have h1' : (0 : Int) < (rwTo l 1 y t i : Nat) := by omega
              rw [decide_eq_true h1]
              by_cases h2 : 0 < rwTo l 2 y t i
              · have h2' : (0 : Int) < (rwTo l 2 y t i : Nat) := by omega
                rw [decide_eq_true h2]
                generalize rwTo l 1 y t i = q1 at *
                generalize rwTo l 2 y t i = q2 at *
                go_wp2
                refine ⟨⟨t + 1, by omega, by go_num, HR4.out⟩, by simp [intOf]; omega⟩
              · have h2' : ¬ (0 : Int) < (rwTo l 2 y t i : Nat) := by omega
                rw [decide_eq_false h2]
                generalize rwTo l 1 y t i = q1 at *
                generalize rwTo l 2 y t i = q2 at *
                obtain rfl : q2 = 0 := by omega
                clear h2 h2'
                go_wp2
                go_roundw
                case rel => exact ⟨t + 1, by omega, by go_num, HR4.out⟩
                case measure => simp [intOf]; omega
            · have h1' : ¬ (0 : Int) < (rwTo l 1 y t i : Nat) := by omega
              rw [decide_eq_false h1]
              by_cases h2 : 0 < rwTo l 2 y t i
              · have h2' : (0 : Int) < (rwTo l 2 y t i : Nat) := by omega
                rw [decide_eq_true h2]
                generalize rwTo l 1 y t i = q1 at *
                generalize rwTo l 2 y t i = q2 at *
                obtain rfl : q1 = 0 := by omega
                clear h1 h1'
                go_wp2
                refine ⟨⟨t + 1, by omega, by go_num, HR4.out⟩, by simp [intOf]; omega⟩
              · have h2' : ¬ (0 : Int) < (rwTo l 2 y t i : Nat) := by omega
                rw [decide_eq_false h2]
                generalize rwTo l 1 y t i = q1 at *
                generalize rwTo l 2 y t i = q2 at *
                obtain rfl : q1 = 0 := by omega
                obtain rfl : q2 = 0 := by omega
                clear h1 h1' h2 h2'
                go_wp2
                go_roundw
                case rel => exact ⟨t + 1, by omega, by go_num, HR4.out⟩
                case measure => simp [intOf]; omega
      · obtain rfl : t = 6 := by omega
        go_wp2
        go_ret
        exact ⟨rfl, HW3.out.trans HR3.out⟩
  · have HR := Lib.hid (show ∀ q, lastR l q (y : Int) = fun _ => 0 from fun q => by unfold lastR; rw [if_neg (fun h => hm h.1)])
    have HE := Lib.hid (show lastE l (y : Int) = may l by unfold lastE; rw [if_neg hm])
    have h1 : (may l != 0) = true := by simp [hm]
    clear hm
    go_enter Try.func7, Try.ntmps7
    go_wp2_with fail
    refine (detected_any _).mono ?_
    rintro e1 w1 ⟨rfl, hb1⟩
    have hw1 := hw0.call hb1
    clear hb1
    go_wp2_with fail
    refine (HRT.out _).mono ?_
    rintro _ _ ⟨rfl, rfl⟩
    go_wp2_with fail
    refine (last_any A n c l y _ (HL.out.bel hw1)).mono ?_
    rintro e2 w2 ⟨rfl, hb2⟩
    have hw2 := hw1.call hb2
    clear hb2
    rw [HR.out, HR.out, HE.out]
    obtain ⟨b1, b2, hB, hs⟩ := boxes2 w2 #[.int .i64 0, .int .i64 0, .int .i64 0, .int .i64 0, .int .i64 0, .int .i64 0] #[.int .i64 0, .int .i64 0, .int .i64 0, .int .i64 0, .int .i64 0, .int .i64 0] 30 30
    have HB3 := Lib.hid (show Bel w2 _ from below_setRow' (below_setRow' hB w2.heap.size (clk (ck fun _ => 0)) (Nat.le_refl _)) (w2.heap.size + 1) (clk (ck fun _ => 0)) (by omega))
    have b2' := b2.setRow_ne w2.heap.size (clk (ck fun _ => 0)) (by omega)
    have z1 : Box _ w2.heap.size #[.int .i64 0, .int .i64 0, .int .i64 0, .int .i64 0, .int .i64 0, .int .i64 0] 30 := (b1.setRow (clk (ck fun _ => 0))).setRow_ne (w2.heap.size + 1) (clk (ck fun _ => 0)) (by omega)
    have z2 : Box _ (w2.heap.size + 1) #[.int .i64 0, .int .i64 0, .int .i64 0, .int .i64 0, .int .i64 0, .int .i64 0] 30 := b2'.setRow (clk (ck fun _ => 0))
    have E := zero
    have HW3 := Lib.hid (hw2.trans HB3.out)
    clear hB hs hw2 hw1 hw0
    go_wp2_with (first | (refine storeB _ _ _ rfl rfl rfl rfl b1 rfl ck28 (clk_all _) ?_) | (refine storeB _ _ _ rfl rfl rfl rfl b2' rfl ck28 (clk_all _) ?_) | (refine loadB _ _ rfl rfl rfl z1 ck28 ?_) | (refine loadG _ _ rfl rfl rfl z2 ck28 ?_))
    go_ret
    exact ⟨rfl, HW3.out⟩

set_option maxRecDepth 100000 in
theorem lifted (os : Os) (started : os.Started) (H : Type) (enc : TypeId × Value → H) :
    ReturnsInHanded {} Try.checked os 7 .any (Rows.fullSeenSpec.pre6 enc Try.prog Try.f7 Rows.fullSeenRow.domain false) (Rows.fullSeenSpec.post enc Try.prog Try.f7 false true false false) := by
  refine returnsInHanded_of_change_sized (C := Try.checked) own started (by kernel_rfl) Try.func7
    (ChangeSpec.witness6 (enc := enc) (C := Try.checked) false ⟨#[], #[.slice none 0 0, .int .i64 0], []⟩ 8 (by kernel_rfl) (by kernel_rfl) (by kernel_rfl) (by kernel_rfl)) ?_
  intro W base args ds gs before hval0 hW hcnd hsz0 _
  have hsz : (DataW.weightsEach Try.prog (Try.f7.params.toList ++ Rows.fullSeenSpec.plain.varTypes Try.prog) (ds ++ gs)).all (· ≤ reachBytes) = true := hsz0
  clear hsz0
  have hval : ∀ (j : Nat) t v, Try.f7.params[j]? = some t → args[j]? = some v → Value.okWide Try.prog W .any base t v := hval0
  have hW' := hW
  obtain ⟨p, q, hA0, hV, rfl, hfz, hnd⟩ := hW
  have hA : DataW.TrodAll enc Try.prog W 0 (fun _ => true) true Try.f7.params.toList args.toList ds p := hA0
  rw [Try.params7] at hA hval hsz
  obtain ⟨v0, vs0, d0, ds0, p0, q0, hargs, rfl, rfl, h0, r0⟩ := trodAll_cons hA
  obtain ⟨v1, vs1, d1, ds1, p1, q1, rfl, rfl, rfl, h1, r1⟩ := trodAll_cons r0
  obtain ⟨rfl, rfl, rfl⟩ := trodAll_nil r1
  obtain rfl : args = #[v0, v1] := by cases args; simp_all
  obtain ⟨rfl, rfl⟩ := trodVars_none hV
  have t0 := h0
  have lt0 : ∀ x ∈ p0, x.block < W.heap.size := by obtain ⟨m, hm⟩ := t0; exact DataW.trod_lt m _ _ _ hm
  have t1 := h1
  have lt1 : ∀ x ∈ p1, x.block < W.heap.size := by obtain ⟨m, hm⟩ := t1; exact DataW.trod_lt m _ _ _ hm
  obtain ⟨A0, n0, c0, l0, rfl, s0, m0, x0, g0, z0⟩ := open_evs Try.underlying22 Try.underlying45 ⟨rfl, rfl, rfl⟩ (by kernel_rfl) (by kernel_rfl) Try.underlying3 (hval 0 22 v0 rfl rfl) h0
  have y0 := reach_sl hsz (j := 0) rfl rfl Try.underlying22 (b := 24) (by kernel_rfl) z0
  obtain ⟨a1, rfl, _, _, x1⟩ := open_int Try.underlying3 (hval 1 3 v1 rfl rfl) h1
  have k1 := in64_of x1
  clear hA0 hval0
  refine (walk W A0 n0 c0 l0 s0 m0 x0 g0 a1 k1).mono fun e W' ⟨he, bel⟩ => ?_
  subst he
  exact ⟨_, rfl, _, _, _, [], _, [], hW', trodAll_mk1 (shut_bool Try.underlying4 _), (trodAll_cons_mk (Below.trod laidOut (by kernel_rfl) (of_decide_eq_true (by kernel_rfl)) t0 bel lt0) (trodAll_cons_mk (Below.trod laidOut (by kernel_rfl) (of_decide_eq_true (by kernel_rfl)) t1 bel lt1) trodAll_mk0)), rfl, bel.frame _, fun h => by cases h⟩

theorem over : Rows.fullSeenRow.holds Try.pinned (OpenSpec.ofChange Rows.fullSeenSpec) :=
  OpenClaim.holds_of_wide 7 Try.f7 rfl rfl rfl rfl rfl rfl rfl ⟨rfl, rfl, rfl, rfl, rfl⟩ rfl rfl rfl rfl rfl (by kernel_rfl) Try.func7 (by kernel_rfl)
    (of_decide_eq_true (by kernel_rfl)) (by unfold Func.isWrapper; first | (rw [if_pos (by decide +kernel)]; kernel_rfl) | (rw [if_neg (by decide +kernel)]; exact ⟨rfl, rfl⟩))
    (fun os started H enc _ => lifted os started H enc)

theorem proved : Rows.FullSeenSaid := over
#print axioms proved
end Go.Proofs.Ytnjaeampnakbbaa.LFullSeen
