/- 'deadheatkeep.StampMattern' returns true for every input and leaves its arguments as they are. No condition. -/
import Derived.Test.YtfmkbjgkicipcaaOpenTr
import Derived.Test.YtfmkbjgkicipcaaKeepSt
import Derived.Test.YtfmkbjgkicipcaaKeepAh
set_option linter.all false
set_option maxRecDepth 100000
namespace Go.Proofs.Ytfmkbjgkicipcaa.LStampMattern
open Go Go.ChangeShapes Go.WideShapes Go.ChangeAt Go.RowKit

set_option maxHeartbeats 4000000 in
theorem walk (W : World) (A : Option Addr) (n c : Nat) (l : List Ev) (s : Sl W A n l) (m : n ≤ c) (x : c ≤ maxLen) (g : ∀ e ∈ l, EvOk e) :
    Calls Try.prog 5 #[.slice A n c] W fun e w' => e = .returned (.bool true) ∧ Below W.heap.size W w' := by
  unfold maxLen at x
  have hw0 : Bel W W := Bel.refl _
  have HL := Lib.hid s
  have HN := Lib.hid s.1
  clear s g
  cases h1 : (may l == 0)
  · have HM := Lib.hid (show may l ≠ 0 by simpa using h1)
    have h1' : (may l != 0) = true := by simpa using h1
    go_enter Try.func5, Try.ntmps5
    go_wp2_with fail
    refine (stamped_any _).mono ?_
    rintro e1 w1 ⟨rfl, hb1⟩
    have hw1 := hw0.call hb1
    clear hb1
    go_wp2_with fail
    refine (stamps_bad A n c l _ (HL.out.bel hw1) HM.out).mono ?_
    rintro e2 w2 ⟨rfl, hb2⟩
    have hw2 := hw1.call hb2
    clear hb2
    go_wp2_with fail
    refine (may_any A n c l _ (HL.out.bel hw2)).mono ?_
    rintro e3 w3 ⟨rfl, hb3⟩
    have hw3 := hw2.call hb3
    clear hb3
    go_wp2
    go_ret
    exact ⟨rfl, hw3⟩
  · have hm : may l = 0 := eq_of_beq h1
    have HM := Lib.hid hm
    have h1' : (may l != 0) = false := by simp [hm]
    have hne : ((n : Int) != (n : Int)) = false := by simp
    have hn80 : n ≤ 80 := by rw [← HN.out]; exact ((may_iff l).1 hm).1
    clear hm
    go_enter Try.func5, Try.ntmps5
    go_wp2_with fail
    refine (stamped_any _).mono ?_
    rintro e1 w1 ⟨rfl, hb1⟩
    have hw1 := hw0.call hb1
    clear hb1
    go_wp2_with fail
    refine (stamps_ok A n c l _ (HL.out.bel hw1) HM.out).mono ?_
    rintro e2 w2 ⟨B, rfl, hck, hge, hb2⟩
    have hw2 := hw1.call hb2
    clear hb2
    have HCK := Lib.hid hck
    clear hck hge
    go_wp2_with fail
    refine (kahead_any A n c l _ (HL.out.bel hw2) HM.out).mono ?_
    rintro e3 w3 ⟨M, rfl, hmap, hb3⟩
    have hw3 := hw2.call hb3
    replace HCK := Lib.hid (HCK.out.bel (Bel.of hb3))
    clear hb3
    have HMAP := Lib.hid hmap
    have HW3 := Lib.hid hw3
    clear hmap hw3 hw2 hw1 hw0
    go_wp2
    go_loopw [35] (fun t35 wr => ∃ i : Nat, i ≤ n ∧ t35 = .int .i64 i ∧ Bel w3 wr) (fun t35 _ => n - (intOf t35).toNat)
    case atStart => exact ⟨0, by omega, rfl, Bel.refl _⟩
    case round =>
      obtain ⟨i, hi, rfl, hbr⟩ := hrel
      have HB := Lib.hid hbr
      clear hbr
      by_cases hlt : i < n
      · have hlt' : (i : Int) < n := by omega
        have hi0 : (0 : Int) ≤ (i : Int) := by omega
        go_wp2
        go_loopw [40] (fun t40 wr => ∃ j : Nat, j ≤ n ∧ t40 = .int .i64 j ∧ Bel w3 wr) (fun t40 _ => n - (intOf t40).toNat)
        case atStart => exact ⟨0, by omega, rfl, HB.out⟩
        case round =>
          obtain ⟨j, hj, rfl, hbr⟩ := hrel
          have HB2 := Lib.hid hbr
          clear hbr HB
          by_cases hlj : j < n
          · have hlj' : (j : Int) < n := by omega
            have hj0 : (0 : Int) ≤ (j : Int) := by omega
            by_cases hij : i = j
            · subst hij
              have hb : ((i : Int) != (i : Int)) = false := by simp
              go_wp2
              (refine region_bel (by kernel_rfl) (by kernel_rfl) ?_; (repeat (first | ((with_reducible refine BigFrame.wpQuiet_skip ?_ ?_); exact rfl; simp only [Act.put, Act.eval, List.setIfInBounds_toArray, List.set_cons_zero, List.set_cons_succ, Array.getD_eq_getD_getElem?, List.getElem?_toArray, List.getElem?_cons_zero, List.getElem?_cons_succ, Option.getD_some]) | (refine q_move _ rfl rfl ?_; simp only [Act.put, Act.eval, List.setIfInBounds_toArray, List.set_cons_zero, List.set_cons_succ, Array.getD_eq_getD_getElem?, List.getElem?_toArray, List.getElem?_cons_zero, List.getElem?_cons_succ, Option.getD_some]) | (refine q_assign _ rfl rfl ?_; simp only [Act.put, Act.eval, List.setIfInBounds_toArray, List.set_cons_zero, List.set_cons_succ, Array.getD_eq_getD_getElem?, List.getElem?_toArray, List.getElem?_cons_zero, List.getElem?_cons_succ, Option.getD_some]) | (refine q_any rfl ?_; apply Exists.intro; refine ⟨fun w hw => ?_, ?_⟩; (go_simp; first | exact ⟨rfl, rfl⟩ | rfl); simp only [Act.put, Act.eval, List.setIfInBounds_toArray, List.set_cons_zero, List.set_cons_succ, Array.getD_eq_getD_getElem?, List.getElem?_toArray, List.getElem?_cons_zero, List.getElem?_cons_succ, Option.getD_some]))); refine wpQuiet_nil ?_; intro w2 hw2)
              have HB3 := Lib.hid (HB2.out.trans hw2)
              clear hw2
              go_wp2
              go_roundw
              case rel => exact ⟨i + 1, by omega, by go_num, HB3.out⟩
              case measure => simp [intOf]; omega
            · have hb : ((i : Int) != (j : Int)) = true := by simp; omega
              have HMT := Lib.hid (mattern HM.out (i := i) (j := j) (by rw [HN.out]; exact hlt) hij)
              have HRI := Lib.hid (fun (w' : World) (h : Bel wr w') => (HCK.out.bel (HB2.out.trans h)).row hlt)
              have HRJ := Lib.hid (fun (w' : World) (h : Bel wr w') => (HCK.out.bel (HB2.out.trans h)).row hlj)
              have L := fun (w' : World) (h : Bel wr w') => look_bef (HMAP.out.bel (HB2.out.trans h)) i j
              have HWI := Lib.hid (fun w => within_any (kc l i) (kc l j) w)
              rw [HMT.out] at HWI
              cases hq : bef l i j
              all_goals
                rw [hq] at L HWI
                go_wp2
                (refine region_bel (by kernel_rfl) (by kernel_rfl) ?_; (repeat (first | ((with_reducible refine BigFrame.wpQuiet_skip ?_ ?_); exact rfl; simp only [Act.put, Act.eval, List.setIfInBounds_toArray, List.set_cons_zero, List.set_cons_succ, Array.getD_eq_getD_getElem?, List.getElem?_toArray, List.getElem?_cons_zero, List.getElem?_cons_succ, Option.getD_some]) | (refine q_move _ rfl rfl ?_; simp only [Act.put, Act.eval, List.setIfInBounds_toArray, List.set_cons_zero, List.set_cons_succ, Array.getD_eq_getD_getElem?, List.getElem?_toArray, List.getElem?_cons_zero, List.getElem?_cons_succ, Option.getD_some]) | (refine q_assign _ rfl rfl ?_; simp only [Act.put, Act.eval, List.setIfInBounds_toArray, List.set_cons_zero, List.set_cons_succ, Array.getD_eq_getD_getElem?, List.getElem?_toArray, List.getElem?_cons_zero, List.getElem?_cons_succ, Option.getD_some]) | (refine q_load_mid 31 _ rfl rfl rfl HRI.out ty28 (clk (kc l i)) rfl ?_; simp only [Act.put, Act.eval, List.setIfInBounds_toArray, List.set_cons_zero, List.set_cons_succ, Array.getD_eq_getD_getElem?, List.getElem?_toArray, List.getElem?_cons_zero, List.getElem?_cons_succ, Option.getD_some]) | (refine q_load_mid 31 _ rfl rfl rfl HRJ.out ty28 (clk (kc l j)) rfl ?_; simp only [Act.put, Act.eval, List.setIfInBounds_toArray, List.set_cons_zero, List.set_cons_succ, Array.getD_eq_getD_getElem?, List.getElem?_toArray, List.getElem?_cons_zero, List.getElem?_cons_succ, Option.getD_some]) | (refine q_any rfl ?_; apply Exists.intro; refine ⟨fun w hw => ?_, ?_⟩; (have fct0 := L w hw; go_simp; first | exact ⟨rfl, rfl⟩ | rfl | (go_at_call 19; (with_reducible refine (HWI.out _).mono ?_); rintro e w' ⟨rfl, hb⟩; exact ⟨rfl, hw.call hb⟩)); simp only [Act.put, Act.eval, List.setIfInBounds_toArray, List.set_cons_zero, List.set_cons_succ, Array.getD_eq_getD_getElem?, List.getElem?_toArray, List.getElem?_cons_zero, List.getElem?_cons_succ, Option.getD_some]))); refine wpQuiet_nil ?_; intro w2 hw2)
                have HB3 := Lib.hid (HB2.out.trans hw2)
                clear hw2 L
                go_wp2
                go_roundw
                case rel => exact ⟨j + 1, by omega, by go_num, HB3.out⟩
                case measure => simp [intOf]; omega
          · obtain rfl : j = n := by omega
            go_wp2
            go_roundw
            case rel => exact ⟨i + 1, by omega, by go_num, HB2.out⟩
            case measure => simp [intOf]; omega
      · obtain rfl : i = n := by omega
        have HE := Lib.hid (HW3.out.trans HB.out)
        go_wp2
        go_ret
        exact ⟨rfl, HE.out⟩

set_option maxRecDepth 100000 in
theorem lifted (os : Os) (started : os.Started) (H : Type) (enc : TypeId × Value → H) :
    ReturnsInHanded {} Try.checked os 5 .any (Rows.stampMatternSpec.pre6 enc Try.prog Try.f5 Rows.stampMatternRow.domain false) (Rows.stampMatternSpec.post enc Try.prog Try.f5 false true false false) := by
  refine returnsInHanded_of_change_sized (C := Try.checked) own started (by kernel_rfl) Try.func5
    (ChangeSpec.witness6 (enc := enc) (C := Try.checked) false ⟨#[], #[.slice none 0 0], []⟩ 8 (by kernel_rfl) (by kernel_rfl) (by kernel_rfl) (by kernel_rfl)) ?_
  intro W base args ds gs before hval0 hW hcnd hsz0 _
  have hsz : (DataW.weightsEach Try.prog (Try.f5.params.toList ++ Rows.stampMatternSpec.plain.varTypes Try.prog) (ds ++ gs)).all (· ≤ reachBytes) = true := hsz0
  clear hsz0
  have hval : ∀ (j : Nat) t v, Try.f5.params[j]? = some t → args[j]? = some v → Value.okWide Try.prog W .any base t v := hval0
  have hW' := hW
  obtain ⟨p, q, hA0, hV, rfl, hfz, hnd⟩ := hW
  have hA : DataW.TrodAll enc Try.prog W 0 (fun _ => true) true Try.f5.params.toList args.toList ds p := hA0
  rw [Try.params5] at hA hval hsz
  obtain ⟨v0, vs0, d0, ds0, p0, q0, hargs, rfl, rfl, h0, r0⟩ := trodAll_cons hA
  obtain ⟨rfl, rfl, rfl⟩ := trodAll_nil r0
  obtain rfl : args = #[v0] := by cases args; simp_all
  obtain ⟨rfl, rfl⟩ := trodVars_none hV
  have t0 := h0
  have lt0 : ∀ x ∈ p0, x.block < W.heap.size := by obtain ⟨m, hm⟩ := t0; exact DataW.trod_lt m _ _ _ hm
  obtain ⟨A0, n0, c0, l0, rfl, s0, m0, x0, g0, z0⟩ := open_evs Try.underlying22 Try.underlying37 ⟨rfl, rfl, rfl⟩ (by kernel_rfl) (by kernel_rfl) Try.underlying3 (hval 0 22 v0 rfl rfl) h0
  have y0 := reach_sl hsz (j := 0) rfl rfl Try.underlying22 (b := 24) (by kernel_rfl) z0
  clear hA0 hval0
  refine (walk W A0 n0 c0 l0 s0 m0 x0 g0).mono fun e W' ⟨he, bel⟩ => ?_
  subst he
  exact ⟨_, rfl, _, _, _, [], _, [], hW', trodAll_mk1 (shut_bool Try.underlying4 _), (trodAll_cons_mk (Below.trod laidOut (by kernel_rfl) (of_decide_eq_true (by kernel_rfl)) t0 bel lt0) trodAll_mk0), rfl, bel.frame _, fun h => by cases h⟩

theorem over : Rows.stampMatternRow.holds Try.pinned (OpenSpec.ofChange Rows.stampMatternSpec) :=
  OpenClaim.holds_of_wide 5 Try.f5 rfl rfl rfl rfl rfl rfl rfl ⟨rfl, rfl, rfl, rfl, rfl⟩ rfl rfl rfl rfl rfl (by kernel_rfl) Try.func5 (by kernel_rfl)
    (of_decide_eq_true (by kernel_rfl)) (by unfold Func.isWrapper; first | (rw [if_pos (by decide +kernel)]; kernel_rfl) | (rw [if_neg (by decide +kernel)]; exact ⟨rfl, rfl⟩))
    (fun os started H enc _ => lifted os started H enc)

theorem proved : Rows.StampMatternSaid := over
#print axioms proved
end Go.Proofs.Ytfmkbjgkicipcaa.LStampMattern
