/- 'deadheatkeep.SwapSort' returns true for every input and leaves its argument as it is. No condition. -/
import Derived.Test.YtjlomojhbjpdfaaOpen
import Derived.Test.YtjlomojhbjpdfaaSwU
import Derived.Test.YtjlomojhbjpdfaaSwS
import Derived.Test.YtjlomojhbjpdfaaKeepSw
set_option linter.all false
set_option maxRecDepth 100000
namespace Go.Proofs.Ytjlomojhbjpdfaa.LSwapSort
open Go Go.ChangeShapes Go.WideShapes Go.ChangeAt Go.RowKit

set_option maxHeartbeats 8000000 in
theorem walkH (HS : SwapC) (HA : ApartC) (HLe : LeastC) (W : World) (A : Option Addr) (n c : Nat) (l : List Ev) (s : Sl W A n l) (m : n ≤ c) (x : c ≤ maxLen) (_g : ∀ e ∈ l, EvOk e) :
    Calls Try.prog 13 #[.slice A n c] W fun e w' => e = .returned (.bool true) ∧ Below W.heap.size W w' := by
  have hw0 : Bel W W := Bel.refl _
  have HL := Lib.hid s
  have HMX := Lib.hid (And.intro m x)
  have HSW := Lib.hid (fun w => swapped_any HS HA w)
  have HLC := Lib.hid HLe
  unfold ApartC at HA
  have HAC := Lib.hid HA
  clear s m x HS HA HLe
  go_enter Try.func13, Try.ntmps13
  go_wp2_with fail
  refine (HSW.out _).mono ?_
  rintro e1 w1 ⟨rfl, hb1⟩
  have hw1 := hw0.call hb1
  clear hb1
  go_wp2_with fail
  refine (HLC.out A n c l w1 (HL.out.bel hw1) HMX.out.1 HMX.out.2).mono ?_
  rintro e w2 ⟨r, cc, hB, A2, n2, d2, rfl, hs2, hn2, hd2, hb2⟩
  have HW2 := Lib.hid (Bel.trans hw1 (Bel.of hb2))
  rcases hB with ⟨h1, rfl, rfl⟩ | ⟨h1, rfl, rfl⟩
  · have h2 : (may l != 0) = true := by simpa using h1
    clear hs2 hn2 hd2 hb2 hw0 hw1
    go_wp2
    go_ret
    exact ⟨rfl, HW2.out⟩
  · have HM := Lib.hid h1
    have HSO := Lib.hid (show Sorted (leastL l) from least_sorted)
    have HML := Lib.hid (leastL_may h1)
    have HS2 := Lib.hid hs2
    unfold maxLen at hd2
    clear hs2 hb2 hw0 hw1 h1
    generalize leastL l = r at *
    have hn80 : n2 ≤ 80 := by rw [← HS2.out.1]; exact ((may_iff r).1 HML.out).1
    go_wp2
    go_loopw [5] (fun t wr => ∃ q : Nat, 1 ≤ q ∧ q ≤ n2 + 1 ∧ t = .int .i64 q ∧ Bel w2 wr) (fun t _ => n2 + 1 - (intOf t).toNat)
    case atStart => exact ⟨1, by omega, by omega, rfl, Bel.refl _⟩
    case round =>
      obtain ⟨q, h1, h2, rfl, hbr⟩ := hrel
      have HB := Lib.hid hbr
      clear hbr
      by_cases hlt : q < n2
      · obtain ⟨b, o, e1, rfl, hg1, he1, hr1⟩ := (HS2.out.bel HB.out).at_ (show q - 1 < n2 by omega)
        obtain ⟨b', o', e2, e9, hg2, he2, hr2⟩ := (HS2.out.bel HB.out).at_ hlt
        cases e9
        have hlt' : (q : Int) < n2 := by omega
        have hq1 : ((q - 1 : Nat) : Int) < n2 := by omega
        have hw3 : IntKind.i64.wrap ((q : Int) - 1) = ((q - 1 : Nat) : Int) := by rw [show ((q - 1 : Nat) : Int) = (q : Int) - 1 by omega]; exact IntWalk.i64_in _ (by omega)
        have hw4 : IntKind.i64.wrap (q : Int) = (q : Int) := IntWalk.i64_in _ (by omega)
        have R1 := Lib.hid (fun (w' : World) (h : Bel wr w') => rangeAt_below h.out hg1 hr1)
        have R2 := Lib.hid (fun (w' : World) (h : Bel wr w') => rangeAt_below h.out hg2 hr2)
        have HNX := Lib.hid (show dep e1 e2 = false → ¬ e2.t < e1.t from fun hd => HSO.out.at_ he1 (by rw [show q - 1 + 1 = q by omega]; exact he2) hd)
        have HA1 := Lib.hid (HAC.out e1 e2)
        clear hr1 hr2 hg1 hg2 he1 he2
        cases hd : dep e1 e2
        · have hnl := HNX.out hd
          have HA2 := HA1.out
          rw [hd] at HA2
          have HA3 := Lib.hid HA2
          have F1 := Lib.hid (fun (w' : World) (h : Bel wr w') => show w'.cell? ⟨b, o + q * 3 + 1, none⟩ = some (.int .i64 e2.t) from R2.out w' h 1 _ rfl)
          have F2 := Lib.hid (fun (w' : World) (h : Bel wr w') => show w'.cell? ⟨b, o + (q - 1) * 3 + 1, none⟩ = some (.int .i64 e1.t) from R1.out w' h 1 _ rfl)
          clear HA2 hd
          go_wp2
          (refine region_bel (by kernel_rfl) (by kernel_rfl) ?_; (repeat (first | ((with_reducible refine BigFrame.wpQuiet_skip ?_ ?_); exact rfl; simp only [Act.put, Act.eval, List.setIfInBounds_toArray, List.set_cons_zero, List.set_cons_succ, Array.getD_eq_getD_getElem?, List.getElem?_toArray, List.getElem?_cons_zero, List.getElem?_cons_succ, Option.getD_some]) | (refine q_move _ rfl rfl ?_; simp only [Act.put, Act.eval, List.setIfInBounds_toArray, List.set_cons_zero, List.set_cons_succ, Array.getD_eq_getD_getElem?, List.getElem?_toArray, List.getElem?_cons_zero, List.getElem?_cons_succ, Option.getD_some]) | (refine q_assign _ rfl rfl ?_; simp only [Act.put, Act.eval, List.setIfInBounds_toArray, List.set_cons_zero, List.set_cons_succ, Array.getD_eq_getD_getElem?, List.getElem?_toArray, List.getElem?_cons_zero, List.getElem?_cons_succ, Option.getD_some]) | (refine q_load_mid _ _ rfl rfl rfl R1.out T36 (evv e1) rfl ?_; simp only [Act.put, Act.eval, List.setIfInBounds_toArray, List.set_cons_zero, List.set_cons_succ, Array.getD_eq_getD_getElem?, List.getElem?_toArray, List.getElem?_cons_zero, List.getElem?_cons_succ, Option.getD_some]) | (refine q_load_mid _ _ rfl rfl rfl R2.out T36 (evv e2) rfl ?_; simp only [Act.put, Act.eval, List.setIfInBounds_toArray, List.set_cons_zero, List.set_cons_succ, Array.getD_eq_getD_getElem?, List.getElem?_toArray, List.getElem?_cons_zero, List.getElem?_cons_succ, Option.getD_some]) | (refine q_any rfl ?_; apply Exists.intro; refine ⟨fun w hw => ?_, ?_⟩; (have fct0 := F1.out w hw; have fct1 := F2.out w hw; go_simp; first | exact ⟨rfl, rfl⟩ | rfl | (go_at_call 15; (with_reducible refine (HA3.out _).mono ?_); rintro e w' ⟨rfl, hb⟩; exact ⟨rfl, hw.call hb⟩)); simp only [Act.put, Act.eval, List.setIfInBounds_toArray, List.set_cons_zero, List.set_cons_succ, Array.getD_eq_getD_getElem?, List.getElem?_toArray, List.getElem?_cons_zero, List.getElem?_cons_succ, Option.getD_some]))); refine wpQuiet_nil ?_; intro w2 hw2)
          have HW3 := Lib.hid (HB.out.trans hw2)
          clear hw2
          go_wp2
          go_roundw
          case rel => exact ⟨q + 1, by omega, by omega, by go_num, HW3.out⟩
          case measure => simp [intOf]; omega
        · have HA2 := HA1.out
          rw [hd] at HA2
          have HA3 := Lib.hid HA2
          clear HA2 hd
          go_wp2
          (refine region_bel (by kernel_rfl) (by kernel_rfl) ?_; (repeat (first | ((with_reducible refine BigFrame.wpQuiet_skip ?_ ?_); exact rfl; simp only [Act.put, Act.eval, List.setIfInBounds_toArray, List.set_cons_zero, List.set_cons_succ, Array.getD_eq_getD_getElem?, List.getElem?_toArray, List.getElem?_cons_zero, List.getElem?_cons_succ, Option.getD_some]) | (refine q_move _ rfl rfl ?_; simp only [Act.put, Act.eval, List.setIfInBounds_toArray, List.set_cons_zero, List.set_cons_succ, Array.getD_eq_getD_getElem?, List.getElem?_toArray, List.getElem?_cons_zero, List.getElem?_cons_succ, Option.getD_some]) | (refine q_assign _ rfl rfl ?_; simp only [Act.put, Act.eval, List.setIfInBounds_toArray, List.set_cons_zero, List.set_cons_succ, Array.getD_eq_getD_getElem?, List.getElem?_toArray, List.getElem?_cons_zero, List.getElem?_cons_succ, Option.getD_some]) | (refine q_load_mid _ _ rfl rfl rfl R1.out T36 (evv e1) rfl ?_; simp only [Act.put, Act.eval, List.setIfInBounds_toArray, List.set_cons_zero, List.set_cons_succ, Array.getD_eq_getD_getElem?, List.getElem?_toArray, List.getElem?_cons_zero, List.getElem?_cons_succ, Option.getD_some]) | (refine q_load_mid _ _ rfl rfl rfl R2.out T36 (evv e2) rfl ?_; simp only [Act.put, Act.eval, List.setIfInBounds_toArray, List.set_cons_zero, List.set_cons_succ, Array.getD_eq_getD_getElem?, List.getElem?_toArray, List.getElem?_cons_zero, List.getElem?_cons_succ, Option.getD_some]) | (refine q_any rfl ?_; apply Exists.intro; refine ⟨fun w hw => ?_, ?_⟩; (go_simp; first | exact ⟨rfl, rfl⟩ | rfl | (go_at_call 15; (with_reducible refine (HA3.out _).mono ?_); rintro e w' ⟨rfl, hb⟩; exact ⟨rfl, hw.call hb⟩)); simp only [Act.put, Act.eval, List.setIfInBounds_toArray, List.set_cons_zero, List.set_cons_succ, Array.getD_eq_getD_getElem?, List.getElem?_toArray, List.getElem?_cons_zero, List.getElem?_cons_succ, Option.getD_some]))); refine wpQuiet_nil ?_; intro w2 hw2)
          have HW3 := Lib.hid (HB.out.trans hw2)
          clear hw2
          go_wp2
          go_roundw
          case rel => exact ⟨q + 1, by omega, by omega, by go_num, HW3.out⟩
          case measure => simp [intOf]; omega
      · go_wp2_with fail
        refine (may_any A2 n2 d2 r wr (HS2.out.bel HB.out)).mono ?_
        rintro e w3 ⟨rfl, hb3⟩
        rw [HML.out]
        have HW3 := Lib.hid ((HW2.out.trans HB.out).call hb3)
        clear hb3
        go_wp2
        go_ret
        exact ⟨rfl, HW3.out⟩
theorem walk (W : World) (A : Option Addr) (n c : Nat) (l : List Ev) (s : Sl W A n l) (m : n ≤ c) (x : c ≤ maxLen) (g : ∀ e ∈ l, EvOk e) :
    Calls Try.prog 13 #[.slice A n c] W fun e w' => e = .returned (.bool true) ∧ Below W.heap.size W w' := walkH swap_any apart_any least_any W A n c l s m x g
set_option maxRecDepth 100000 in
theorem lifted (os : Os) (started : os.Started) (H : Type) (enc : TypeId × Value → H) :
    ReturnsInHanded {} Try.checked os 13 .any (Rows.swapSortSpec.pre6 enc Try.prog Try.f13 Rows.swapSortRow.domain false) (Rows.swapSortSpec.post enc Try.prog Try.f13 false true false false) := by
  refine returnsInHanded_of_change_sized (C := Try.checked) own started (by kernel_rfl) Try.func13
    (ChangeSpec.witness6 (enc := enc) (C := Try.checked) false ⟨#[], #[.slice none 0 0], []⟩ 8 (by kernel_rfl) (by kernel_rfl) (by kernel_rfl) (by kernel_rfl)) ?_
  intro W base args ds gs before hval0 hW hcnd hsz0 _
  have hsz : (DataW.weightsEach Try.prog (Try.f13.params.toList ++ Rows.swapSortSpec.plain.varTypes Try.prog) (ds ++ gs)).all (· ≤ reachBytes) = true := hsz0
  clear hsz0
  have hval : ∀ (j : Nat) t v, Try.f13.params[j]? = some t → args[j]? = some v → Value.okWide Try.prog W .any base t v := hval0
  have hW' := hW
  obtain ⟨p, q, hA0, hV, rfl, hfz, hnd⟩ := hW
  have hA : DataW.TrodAll enc Try.prog W 0 (fun _ => true) true Try.f13.params.toList args.toList ds p := hA0
  rw [Try.params13] at hA hval hsz
  obtain ⟨v0, vs0, d0, ds0, p0, q0, hargs, rfl, rfl, h0, r0⟩ := trodAll_cons hA
  obtain ⟨rfl, rfl, rfl⟩ := trodAll_nil r0
  obtain rfl : args = #[v0] := by cases args; simp_all
  obtain ⟨rfl, rfl⟩ := trodVars_none hV
  have t0 := h0
  have lt0 : ∀ x ∈ p0, x.block < W.heap.size := by obtain ⟨m, hm⟩ := t0; exact DataW.trod_lt m _ _ _ hm
  obtain ⟨A0, n0, c0, l0, rfl, s0, m0, x0, g0, z0⟩ := open_evs Try.underlying25 Try.underlying23 ⟨rfl, rfl, rfl⟩ (by kernel_rfl) (by kernel_rfl) Try.underlying3 (hval 0 25 v0 rfl rfl) h0
  have y0 := reach_sl hsz (j := 0) rfl rfl Try.underlying25 (b := 24) (by kernel_rfl) z0
  clear hA0 hval0
  refine (walk W A0 n0 c0 l0 s0 m0 x0 g0).mono fun e W' ⟨he, bel⟩ => ?_
  subst he
  exact ⟨_, rfl, _, _, _, [], _, [], hW', trodAll_mk1 (shut_bool Try.underlying4 _), (trodAll_cons_mk (Below.trod laidOut (by kernel_rfl) (of_decide_eq_true (by kernel_rfl)) t0 bel lt0) trodAll_mk0), rfl, bel.frame _, fun h => by cases h⟩

theorem over : Rows.swapSortRow.holds Try.pinned (OpenSpec.ofChange Rows.swapSortSpec) :=
  OpenClaim.holds_of_wide 13 Try.f13 rfl rfl rfl rfl rfl rfl rfl ⟨rfl, rfl, rfl, rfl, rfl⟩ rfl rfl rfl rfl rfl (by kernel_rfl) Try.func13 (by kernel_rfl)
    (of_decide_eq_true (by kernel_rfl)) (by unfold Func.isWrapper; first | (rw [if_pos (by decide +kernel)]; kernel_rfl) | (rw [if_neg (by decide +kernel)]; exact ⟨rfl, rfl⟩))
    (fun os started H enc _ => lifted os started H enc)

theorem proved : Rows.SwapSortSaid := over
#print axioms proved
end Go.Proofs.Ytjlomojhbjpdfaa.LSwapSort
