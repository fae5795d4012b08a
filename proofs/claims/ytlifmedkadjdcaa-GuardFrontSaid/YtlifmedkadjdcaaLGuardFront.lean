/- 'deadheatkeep.GuardFront' returns true for every input and leaves its arguments as they are. No condition. -/
import Derived.Test.YtlifmedkadjdcaaOpen
import Derived.Test.YtlifmedkadjdcaaKeepGu
import Derived.Test.YtlifmedkadjdcaaHasFl
import Derived.Test.YtlifmedkadjdcaaRest
import Derived.Test.YtlifmedkadjdcaaRefTr
set_option linter.all false
set_option maxRecDepth 100000
namespace Go.Proofs.Ytlifmedkadjdcaa.LGuardFront
open Go Go.ChangeShapes Go.WideShapes Go.ChangeAt Go.RowKit

theorem hasfl_lit (A : Option Addr) (n c : Nat) (l : List Ev) (a b : Int) (w : World) (hl : Sl w A n l) (hn : n ≤ 1000) :
    Calls Try.prog 23 #[.slice A n c, .agg #[.int .i64 a, .int .i64 b, .int .i64 0]] w fun r w' => r = .returned (.bool (decide ((⟨a, b, 0⟩ : Ev) ∈ l))) ∧ Below w.heap.size w w' := hasfl_any A n c l ⟨a, b, 0⟩ w hl hn
set_option maxHeartbeats 8000000 in
theorem walk (W : World) (A : Option Addr) (n c : Nat) (l : List Ev) (s : Sl W A n l) (m : n ≤ c) (x : c ≤ maxLen) (g : ∀ e ∈ l, EvOk e) (t : Int) (kt : In64 t) :
    Calls Try.prog 9 #[.slice A n c, .int .i64 t] W fun e w' => e = .returned (.bool true) ∧ Below W.heap.size W w' := by
  unfold maxLen at x
  have hw0 : Bel W W := Bel.refl _
  have HL := Lib.hid s
  have HN := Lib.hid s.1
  clear s g
  cases h1 : (may l == 0)
  · clear kt
    go_enter Try.func9, Try.ntmps9
    go_wp2_with fail
    refine (guarded_any _).mono ?_
    rintro e1 w1 ⟨rfl, hb1⟩
    have hw1 := hw0.call hb1
    clear hb1
    go_wp2_with fail
    refine (may_any A n c l _ (HL.out.bel hw1)).mono ?_
    rintro e2 w2 ⟨rfl, hb2⟩
    have hw2 := hw1.call hb2
    clear hb2
    go_wp2
    go_ret
    exact ⟨rfl, hw2⟩
  · have hm := eq_of_beq h1
    have HM := Lib.hid hm
    have hn80 : n ≤ 80 := by rw [← HN.out]; exact ((may_iff l).1 hm).1
    have hk0 := Int.emod_nonneg t (show (n : Int) + 1 ≠ 0 by omega)
    have hk1 := Int.emod_lt_of_pos t (show (0 : Int) < n + 1 by omega)
    have HRT := Lib.hid (fun w => rest_any t (n + 1) kt (by omega) (by omega) w)
    clear kt hm
    generalize t % ((n : Int) + 1) = t' at *
    obtain ⟨k, rfl⟩ := Int.eq_ofNat_of_zero_le hk0
    have hk : k ≤ n := by omega
    have hkc : (k : Int) ≤ c := by omega
    have HMK := Lib.hid (may_takeF HM.out k)
    have HFE := Lib.hid (show warns (l.take k) = wl l k by unfold warns; rw [if_pos HMK.out, List.length_take, HN.out, Nat.min_eq_left hk, wl_take _ (Nat.le_refl _)])
    have HLW := Lib.hid (fun (e : Ev) (h : e ∈ wl l k) => wl_low h)
    obtain ⟨r, hsp, hhi⟩ : ∃ r, wl l n = wl l k ++ r ∧ ∀ e ∈ r, (k : Int) ≤ e.k := by
      obtain ⟨d, rfl⟩ := Nat.exists_eq_add_of_le hk
      exact wl_split l k d
    have HSP := Lib.hid (show warns l = wl l k ++ r by unfold warns; rw [if_pos HM.out, HN.out]; exact hsp)
    have HHI := Lib.hid hhi
    have HWN := Lib.hid (show warns l = wl l n by unfold warns; rw [if_pos HM.out, HN.out])
    clear hk0 hk1 hsp hhi
    obtain ⟨fl, hfl⟩ : ∃ fl, wl l k = fl := ⟨_, rfl⟩
    obtain ⟨al, hal⟩ : ∃ al, warns l = al := ⟨_, rfl⟩
    obtain ⟨nf, hnf⟩ : ∃ nf, fl.length = nf := ⟨_, rfl⟩
    obtain ⟨na, hna⟩ : ∃ na, al.length = na := ⟨_, rfl⟩
    have hsp := HSP.out
    have hfe := HFE.out
    have hlw := HLW.out
    rw [hfl, hal] at hsp
    rw [hfl] at hfe hlw
    have hle : nf ≤ na := by rw [← hnf, ← hna, hsp, List.length_append]; omega
    have HNF := Lib.hid (show al.take nf = fl by rw [hsp, ← hnf]; simp)
    have HAT := Lib.hid (fun (i : Nat) (h : i < nf) => show al[i]? = fl[i]? by rw [hsp]; exact List.getElem?_append_left (by omega))
    have HAR := Lib.hid (fun (i : Nat) (h : nf ≤ i) => show al[i]? = r[i - nf]? by rw [hsp, ← hnf]; exact List.getElem?_append_right (by omega))
    have hna80 : na ≤ 80 := by rw [← hna, ← hal, HWN.out]; exact Nat.le_trans (wl_len l n) hn80
    have HAL := Lib.hid hal
    have HLF := Lib.hid hfe
    have HLW2 := Lib.hid hlw
    have HNFL := Lib.hid hnf
    have HNA := Lib.hid hna
    have HMEM := Lib.hid (show ∀ e, e ∈ al ↔ ∃ j, j < n ∧ wn l j = true ∧ e = ⟨(j : Nat), (eZ l j).o, 0⟩ from fun e => by rw [← hal, HWN.out]; exact wl_mem)
    clear hal hfe hlw hnf hna hsp hfl HSP HFE HLW HWN
    go_enter Try.func9, Try.ntmps9
    go_wp2_with fail
    refine (guarded_any _).mono ?_
    rintro e1 w1 ⟨rfl, hb1⟩
    have hw1 := hw0.call hb1
    clear hb1
    go_wp2_with fail
    refine (may_any A n c l _ (HL.out.bel hw1)).mono ?_
    rintro e2 w2 ⟨rfl, hb2⟩
    have hw2 := hw1.call hb2
    clear hb2
    go_wp2_with fail
    refine (HRT.out _).mono ?_
    rintro _ _ ⟨rfl, rfl⟩
    go_wp2_with fail
    refine (warns_any A n c l _ (HL.out.bel hw2) m).mono ?_
    rintro e3 w3 ⟨v3, rfl, hown3, hb3⟩
    have hw3 := hw2.call hb3
    clear hb3
    rw [HM.out]
    rw [HAL.out, HNA.out] at hown3
    obtain ⟨A3, c3, rfl, hs3, hq3, hx3⟩ := Sl.own hown3
    have HS3 := Lib.hid hs3
    have HQ3 := Lib.hid (And.intro hq3 hx3)
    clear hown3 hs3 hq3 hx3
    go_wp2_with fail
    refine (warns_any A k c (l.take k) _ ((HL.out.bel hw3).take hk) (by omega)).mono ?_
    rintro e4 w4 ⟨v4, rfl, hown4, hb4⟩
    have hw4 := hw3.call hb4
    replace HS3 := Lib.hid (HS3.out.bel (Bel.of hb4))
    clear hb4
    rw [HMK.out]
    rw [HLF.out, HNFL.out] at hown4
    obtain ⟨A4, c4, rfl, hs4, hn4, hm4⟩ := Sl.own hown4
    have HS4 := Lib.hid hs4
    have HQ4 := Lib.hid (And.intro hn4 hm4)
    clear hown4 hs4 hn4 hm4
    have HW4 := Lib.hid hw4
    clear hw4 hw3 hw2 hw1 hw0
    go_wp2
    go_loopw [9] (fun t13 wr => ∃ i : Nat, i ≤ nf ∧ t13 = .int .i64 i ∧ wr = w4) (fun t13 _ => nf - (intOf t13).toNat)
    case atStart => exact ⟨0, by omega, rfl, rfl⟩
    case round =>
      obtain ⟨i, hi, rfl, rfl⟩ := hrel
      by_cases hlt : i < nf
      · obtain ⟨bb, off, e, rfl, hbb, he, hrg⟩ := HS3.out.at_ (show i < na by omega)
        have h0 := HLW2.out e (by rw [HAT.out i hlt] at he; exact List.mem_of_getElem? he)
        have hlt' : (i : Int) < na := by omega
        have e0 : wr.cell? ⟨bb, off + i * 3, none⟩ = some (.int .i64 e.k) := hrg 0 (.int .i64 e.k) rfl
        have hek : e.k < k := h0.2
        clear hrg he h0
        go_wp2
        go_roundw
        case rel => exact ⟨i + 1, by omega, by go_num, by first | trivial | rfl⟩
        case measure => simp [intOf]; omega
      · obtain rfl : i = nf := by omega
        have hs5 : Sl wr A3 i fl := by have := HS3.out.take hle; rw [HNF.out] at this; exact this
        have HS5 := Lib.hid hs5
        clear hs5
        by_cases hna : i < na
        · obtain ⟨bb, off, e, rfl, hbb, he, hrg⟩ := HS3.out.at_ hna
          have h0 := HHI.out e (by rw [HAR.out i (Nat.le_refl _)] at he; exact List.mem_of_getElem? he)
          have hlt' : (i : Int) < na := by omega
          have hcc : (i : Int) ≤ c3 := by have := HQ3.out.1; omega
          have e0 : wr.cell? ⟨bb, off + i * 3, none⟩ = some (.int .i64 e.k) := hrg 0 (.int .i64 e.k) rfl
          clear hrg he
          go_wp2_with fail
          refine (eqfl_any A4 _ _ c4 _ c3 _ _ _ HS4.out HS5.out HQ4.out.1 (by have := HQ3.out.1; omega) HQ4.out.2 HQ3.out.2).mono ?_
          rintro e9 w9 ⟨rfl, hb9⟩
          rw [decide_eq_true rfl]
          have hw9 := HW4.out.call hb9
          have HW9 := Lib.hid hw9
          have HS9 := Lib.hid ((HS3.out).bel (Bel.of hb9))
          clear hw9 hb9 HS4 HS5 HQ4
          go_wp2
          generalize hws : w9 = wS at *
          clear hws
          go_loopw [66] (fun t66 wr => ∃ j : Nat, j ≤ na ∧ t66 = .int .i64 j ∧ Bel wS wr) (fun t66 _ => na - (intOf t66).toNat)
          case atStart => exact ⟨0, by omega, rfl, Bel.refl _⟩
          case round =>
            obtain ⟨j, hj, rfl, hr⟩ := hrel
            have HR := Lib.hid hr
            clear hr
            by_cases hjn : j < na
            · have hjn' : (j : Int) < na := by omega
              obtain ⟨b2, off2, f, hAe, hbb2, hf, hrg2⟩ := (HS9.out.bel HR.out).at_ hjn
              cases hAe
              obtain ⟨q, hq1, hq2, hq3⟩ := (HMEM.out f).1 (List.mem_of_getElem? hf)
              subst hq3
              have hR := Lib.hid hrg2
              have HX := Lib.hid (ewld_box wr ⟨(q : Nat), (eZ l q).o, 0⟩ 40)
              have HRX := Lib.hid (HR.out.trans (Bel.of (ewld_below wr ⟨(q : Nat), (eZ l q).o, 0⟩ 40)))
              have HQ1 := Lib.hid hq1
              have HQ2 := Lib.hid hq2
              have d0 := HX.out.cell 0 (v := .int .i64 (q : Nat)) rfl
              have f1 : wrap64 ((q : Int) + 1) = ((q + 1 : Nat) : Int) := by rw [IntWalk.wrap64_in _ (by omega)]; rfl
              clear hf hbb2 hrg2
              go_wp2_with (first | (refine load_ev TFl _ rfl rfl rfl hR.out ?_) | (refine ewld_store TFl _ _ rfl rfl _ rfl rfl rfl ?_))
              generalize hwE : ewld wr ⟨(q : Nat), (eZ l q).o, 0⟩ 40 = wE at *
              generalize hwr : wr.heap.size = xb at *
              have HF1 := Lib.hid f1; clear hwE hwr d0 f1 hq1 hq2
              go_loopw [12] (fun t12 wr => ∃ i : Nat, q + 1 ≤ i ∧ i ≤ n ∧ t12 = .int .i64 i ∧ Bel wE wr) (fun t12 _ => n - (intOf t12).toNat)
              case atStart => exact ⟨q + 1, Nat.le_refl _, by have := HQ1.out; omega, by first | rw [HF1.out] | rfl, Bel.refl _⟩
              case round =>
                obtain ⟨i, hqi, hin, rfl, hr⟩ := hrel
                have HRR := Lib.hid hr
                clear hr
                by_cases hlt : i < n
                · have hlt' : (i : Int) < n := by omega
                  have hi0 : (0 : Int) ≤ (i : Int) := by omega
                  obtain ⟨b3, off3, e3, hAe3, hbb3, he3, hrg3⟩ := (HL.out.bel ((HW9.out.trans HRX.out).trans HRR.out)).at_ hlt
                  obtain rfl : e3 = eZ l i := (eZ_at he3).symm
                  cases hAe3
                  have hil : i < l.length := by rw [HN.out]; exact hlt
                  have hev := eZ_ok HM.out hil
                  have ho := isEv_o hev
                  have F1 := Lib.hid (fun (w' : World) (h : Bel wr w') => show w'.cell? ⟨b3, off3 + i * 3, none⟩ = some (.int .i64 (eZ l i).k) from rangeAt_below h.out hbb3 hrg3 0 (.int .i64 (eZ l i).k) rfl)
                  have F2 := Lib.hid (fun (w' : World) (h : Bel wr w') => rangeAt_below h.out hbb3 hrg3 2 (.int .i64 (eZ l i).o) rfl)
                  have F3 := Lib.hid (fun (w' : World) (h : Bel wr w') => ((HRR.out.trans h).box HX.out).cell 1 (v := .int .i64 (eZ l q).o) rfl)
                  have HSX := Lib.hid (HS9.out.bel (HRX.out.trans HRR.out))
                  have HAC := Lib.hid (show (eZ l i).k ≤ 2 → acB l i = true from fun h => by
                    have h1 := ho.1
                    have h2 := ho.2
                    unfold nobj at h2
                    unfold acB
                    rw [decide_eq_true]
                    show (eZ l i).k = 1 ∨ (eZ l i).k = 2
                    repeat' split at h2
                    all_goals omega)
                  clear he3 hbb3 hrg3 hev ho
                  by_cases hk2 : (eZ l i).k ≤ 2
                  · have b1 : decide ((eZ l i).k ≤ 2) = true := decide_eq_true hk2
                    by_cases hoq : (eZ l i).o = (eZ l q).o
                    · have b2 : ((eZ l i).o == (eZ l q).o) = true := by simp [hoq]
                      have HIN := Lib.hid (show decide ((⟨(i : Nat), (eZ l q).o, 0⟩ : Ev) ∈ al) = true by
                        rw [decide_eq_true_iff, HMEM.out]
                        exact ⟨i, hlt, wn_again HQ2.out (by omega) (HAC.out hk2) (by unfold oZ; rw [hoq]), by rw [hoq]⟩)
                      clear hk2 hoq
                      go_wp2
                      (refine region_bel (by kernel_rfl) (by kernel_rfl) ?_; (repeat (first | ((with_reducible refine BigFrame.wpQuiet_skip ?_ ?_); exact rfl; simp only [Act.put, Act.eval, List.setIfInBounds_toArray, List.set_cons_zero, List.set_cons_succ, Array.getD_eq_getD_getElem?, List.getElem?_toArray, List.getElem?_cons_zero, List.getElem?_cons_succ, Option.getD_some]) | (refine q_move _ rfl rfl ?_; simp only [Act.put, Act.eval, List.setIfInBounds_toArray, List.set_cons_zero, List.set_cons_succ, Array.getD_eq_getD_getElem?, List.getElem?_toArray, List.getElem?_cons_zero, List.getElem?_cons_succ, Option.getD_some]) | (refine q_assign _ rfl rfl ?_; simp only [Act.put, Act.eval, List.setIfInBounds_toArray, List.set_cons_zero, List.set_cons_succ, Array.getD_eq_getD_getElem?, List.getElem?_toArray, List.getElem?_cons_zero, List.getElem?_cons_succ, Option.getD_some]) | (refine q_any rfl ?_; apply Exists.intro; refine ⟨fun w hw => ?_, ?_⟩; (have fct0 := F1.out w hw; have fct1 := F2.out w hw; have fct2 := F3.out w hw; go_simp; first | exact ⟨rfl, rfl⟩ | rfl | (go_at_call 23; (with_reducible refine (hasfl_lit _ na c3 al (i : Nat) (eZ l q).o _ (HSX.out.bel hw.out) (by omega)).mono ?_); rintro e w' ⟨rfl, hb⟩; exact ⟨rfl, hw.call hb⟩)); simp only [Act.put, Act.eval, List.setIfInBounds_toArray, List.set_cons_zero, List.set_cons_succ, Array.getD_eq_getD_getElem?, List.getElem?_toArray, List.getElem?_cons_zero, List.getElem?_cons_succ, Option.getD_some]))); refine wpQuiet_nil ?_; intro w2 hw2)
                      rw [HIN.out]
                      have HW2 := Lib.hid hw2
                      clear hw2
                      go_wp2
                      go_roundw
                      case rel => exact ⟨i + 1, by omega, by omega, by go_num, HRR.out.trans HW2.out⟩
                      case measure => simp [intOf]; omega
                    · have b2 : ((eZ l i).o == (eZ l q).o) = false := by simpa using hoq
                      clear hk2 hoq
                      go_wp2
                      (refine region_bel (by kernel_rfl) (by kernel_rfl) ?_; (repeat (first | ((with_reducible refine BigFrame.wpQuiet_skip ?_ ?_); exact rfl; simp only [Act.put, Act.eval, List.setIfInBounds_toArray, List.set_cons_zero, List.set_cons_succ, Array.getD_eq_getD_getElem?, List.getElem?_toArray, List.getElem?_cons_zero, List.getElem?_cons_succ, Option.getD_some]) | (refine q_move _ rfl rfl ?_; simp only [Act.put, Act.eval, List.setIfInBounds_toArray, List.set_cons_zero, List.set_cons_succ, Array.getD_eq_getD_getElem?, List.getElem?_toArray, List.getElem?_cons_zero, List.getElem?_cons_succ, Option.getD_some]) | (refine q_assign _ rfl rfl ?_; simp only [Act.put, Act.eval, List.setIfInBounds_toArray, List.set_cons_zero, List.set_cons_succ, Array.getD_eq_getD_getElem?, List.getElem?_toArray, List.getElem?_cons_zero, List.getElem?_cons_succ, Option.getD_some]) | (refine q_any rfl ?_; apply Exists.intro; refine ⟨fun w hw => ?_, ?_⟩; (have fct0 := F1.out w hw; have fct1 := F2.out w hw; have fct2 := F3.out w hw; go_simp; first | exact ⟨rfl, rfl⟩ | rfl | (go_at_call 23; (with_reducible refine (hasfl_lit _ na c3 al (i : Nat) (eZ l q).o _ (HSX.out.bel hw.out) (by omega)).mono ?_); rintro e w' ⟨rfl, hb⟩; exact ⟨rfl, hw.call hb⟩)); simp only [Act.put, Act.eval, List.setIfInBounds_toArray, List.set_cons_zero, List.set_cons_succ, Array.getD_eq_getD_getElem?, List.getElem?_toArray, List.getElem?_cons_zero, List.getElem?_cons_succ, Option.getD_some]))); refine wpQuiet_nil ?_; intro w2 hw2)
                      have HW2 := Lib.hid hw2
                      clear hw2
                      go_wp2
                      go_roundw
                      case rel => exact ⟨i + 1, by omega, by omega, by go_num, HRR.out.trans HW2.out⟩
                      case measure => simp [intOf]; omega
                  · have b1 : decide ((eZ l i).k ≤ 2) = false := decide_eq_false hk2
                    clear hk2
                    go_wp2
                    (refine region_bel (by kernel_rfl) (by kernel_rfl) ?_; (repeat (first | ((with_reducible refine BigFrame.wpQuiet_skip ?_ ?_); exact rfl; simp only [Act.put, Act.eval, List.setIfInBounds_toArray, List.set_cons_zero, List.set_cons_succ, Array.getD_eq_getD_getElem?, List.getElem?_toArray, List.getElem?_cons_zero, List.getElem?_cons_succ, Option.getD_some]) | (refine q_move _ rfl rfl ?_; simp only [Act.put, Act.eval, List.setIfInBounds_toArray, List.set_cons_zero, List.set_cons_succ, Array.getD_eq_getD_getElem?, List.getElem?_toArray, List.getElem?_cons_zero, List.getElem?_cons_succ, Option.getD_some]) | (refine q_assign _ rfl rfl ?_; simp only [Act.put, Act.eval, List.setIfInBounds_toArray, List.set_cons_zero, List.set_cons_succ, Array.getD_eq_getD_getElem?, List.getElem?_toArray, List.getElem?_cons_zero, List.getElem?_cons_succ, Option.getD_some]) | (refine q_any rfl ?_; apply Exists.intro; refine ⟨fun w hw => ?_, ?_⟩; (have fct0 := F1.out w hw; have fct1 := F2.out w hw; have fct2 := F3.out w hw; go_simp; first | exact ⟨rfl, rfl⟩ | rfl | (go_at_call 23; (with_reducible refine (hasfl_lit _ na c3 al (i : Nat) (eZ l q).o _ (HSX.out.bel hw.out) (by omega)).mono ?_); rintro e w' ⟨rfl, hb⟩; exact ⟨rfl, hw.call hb⟩)); simp only [Act.put, Act.eval, List.setIfInBounds_toArray, List.set_cons_zero, List.set_cons_succ, Array.getD_eq_getD_getElem?, List.getElem?_toArray, List.getElem?_cons_zero, List.getElem?_cons_succ, Option.getD_some]))); refine wpQuiet_nil ?_; intro w2 hw2)
                    have HW2 := Lib.hid hw2
                    clear hw2
                    go_wp2
                    go_roundw
                    case rel => exact ⟨i + 1, by omega, by omega, by go_num, HRR.out.trans HW2.out⟩
                    case measure => simp [intOf]; omega
                · obtain rfl : i = n := by omega
                  go_wp2
                  go_roundw
                  case rel => exact ⟨j + 1, by omega, by go_num, HRX.out.trans HRR.out⟩
                  case measure => simp [intOf]; omega
            · obtain rfl : j = na := by omega
              go_wp2
              go_ret
              exact ⟨rfl, HW9.out.trans HR.out⟩
        · obtain rfl : na = i := by omega
          have hcc : (na : Int) ≤ c3 := by have := HQ3.out.1; omega
          go_wp2_with fail
          refine (eqfl_any A4 A3 _ c4 _ c3 _ _ _ HS4.out HS5.out HQ4.out.1 (by have := HQ3.out.1; omega) HQ4.out.2 HQ3.out.2).mono ?_
          rintro e9 w9 ⟨rfl, hb9⟩
          rw [decide_eq_true rfl]
          have hw9 := HW4.out.call hb9
          have HW9 := Lib.hid hw9
          have HS9 := Lib.hid ((HS3.out).bel (Bel.of hb9))
          clear hw9 hb9 HS4 HS5 HQ4
          go_wp2
          generalize hws : w9 = wS at *
          clear hws
          go_loopw [66] (fun t66 wr => ∃ j : Nat, j ≤ na ∧ t66 = .int .i64 j ∧ Bel wS wr) (fun t66 _ => na - (intOf t66).toNat)
          case atStart => exact ⟨0, by omega, rfl, Bel.refl _⟩
          case round =>
            obtain ⟨j, hj, rfl, hr⟩ := hrel
            have HR := Lib.hid hr
            clear hr
            by_cases hjn : j < na
            · have hjn' : (j : Int) < na := by omega
              obtain ⟨b2, off2, f, hAe, hbb2, hf, hrg2⟩ := (HS9.out.bel HR.out).at_ hjn
              cases hAe
              obtain ⟨q, hq1, hq2, hq3⟩ := (HMEM.out f).1 (List.mem_of_getElem? hf)
              subst hq3
              have hR := Lib.hid hrg2
              have HX := Lib.hid (ewld_box wr ⟨(q : Nat), (eZ l q).o, 0⟩ 40)
              have HRX := Lib.hid (HR.out.trans (Bel.of (ewld_below wr ⟨(q : Nat), (eZ l q).o, 0⟩ 40)))
              have HQ1 := Lib.hid hq1
              have HQ2 := Lib.hid hq2
              have d0 := HX.out.cell 0 (v := .int .i64 (q : Nat)) rfl
              have f1 : wrap64 ((q : Int) + 1) = ((q + 1 : Nat) : Int) := by rw [IntWalk.wrap64_in _ (by omega)]; rfl
              clear hf hbb2 hrg2
              go_wp2_with (first | (refine load_ev TFl _ rfl rfl rfl hR.out ?_) | (refine ewld_store TFl _ _ rfl rfl _ rfl rfl rfl ?_))
              generalize hwE : ewld wr ⟨(q : Nat), (eZ l q).o, 0⟩ 40 = wE at *
              generalize hwr : wr.heap.size = xb at *
              have HF1 := Lib.hid f1; clear hwE hwr d0 f1 hq1 hq2
              go_loopw [12] (fun t12 wr => ∃ i : Nat, q + 1 ≤ i ∧ i ≤ n ∧ t12 = .int .i64 i ∧ Bel wE wr) (fun t12 _ => n - (intOf t12).toNat)
              case atStart => exact ⟨q + 1, Nat.le_refl _, by have := HQ1.out; omega, by first | rw [HF1.out] | rfl, Bel.refl _⟩
              case round =>
                obtain ⟨i, hqi, hin, rfl, hr⟩ := hrel
                have HRR := Lib.hid hr
                clear hr
                by_cases hlt : i < n
                · have hlt' : (i : Int) < n := by omega
                  have hi0 : (0 : Int) ≤ (i : Int) := by omega
                  obtain ⟨b3, off3, e3, hAe3, hbb3, he3, hrg3⟩ := (HL.out.bel ((HW9.out.trans HRX.out).trans HRR.out)).at_ hlt
                  obtain rfl : e3 = eZ l i := (eZ_at he3).symm
                  cases hAe3
                  have hil : i < l.length := by rw [HN.out]; exact hlt
                  have hev := eZ_ok HM.out hil
                  have ho := isEv_o hev
                  have F1 := Lib.hid (fun (w' : World) (h : Bel wr w') => show w'.cell? ⟨b3, off3 + i * 3, none⟩ = some (.int .i64 (eZ l i).k) from rangeAt_below h.out hbb3 hrg3 0 (.int .i64 (eZ l i).k) rfl)
                  have F2 := Lib.hid (fun (w' : World) (h : Bel wr w') => rangeAt_below h.out hbb3 hrg3 2 (.int .i64 (eZ l i).o) rfl)
                  have F3 := Lib.hid (fun (w' : World) (h : Bel wr w') => ((HRR.out.trans h).box HX.out).cell 1 (v := .int .i64 (eZ l q).o) rfl)
                  have HSX := Lib.hid (HS9.out.bel (HRX.out.trans HRR.out))
                  have HAC := Lib.hid (show (eZ l i).k ≤ 2 → acB l i = true from fun h => by
                    have h1 := ho.1
                    have h2 := ho.2
                    unfold nobj at h2
                    unfold acB
                    rw [decide_eq_true]
                    show (eZ l i).k = 1 ∨ (eZ l i).k = 2
                    repeat' split at h2
                    all_goals omega)
                  clear he3 hbb3 hrg3 hev ho
                  by_cases hk2 : (eZ l i).k ≤ 2
                  · have b1 : decide ((eZ l i).k ≤ 2) = true := decide_eq_true hk2
                    by_cases hoq : (eZ l i).o = (eZ l q).o
                    · have b2 : ((eZ l i).o == (eZ l q).o) = true := by simp [hoq]
                      have HIN := Lib.hid (show decide ((⟨(i : Nat), (eZ l q).o, 0⟩ : Ev) ∈ al) = true by
                        rw [decide_eq_true_iff, HMEM.out]
                        exact ⟨i, hlt, wn_again HQ2.out (by omega) (HAC.out hk2) (by unfold oZ; rw [hoq]), by rw [hoq]⟩)
                      clear hk2 hoq
                      go_wp2
                      (refine region_bel (by kernel_rfl) (by kernel_rfl) ?_; (repeat (first | ((with_reducible refine BigFrame.wpQuiet_skip ?_ ?_); exact rfl; simp only [Act.put, Act.eval, List.setIfInBounds_toArray, List.set_cons_zero, List.set_cons_succ, Array.getD_eq_getD_getElem?, List.getElem?_toArray, List.getElem?_cons_zero, List.getElem?_cons_succ, Option.getD_some]) | (refine q_move _ rfl rfl ?_; simp only [Act.put, Act.eval, List.setIfInBounds_toArray, List.set_cons_zero, List.set_cons_succ, Array.getD_eq_getD_getElem?, List.getElem?_toArray, List.getElem?_cons_zero, List.getElem?_cons_succ, Option.getD_some]) | (refine q_assign _ rfl rfl ?_; simp only [Act.put, Act.eval, List.setIfInBounds_toArray, List.set_cons_zero, List.set_cons_succ, Array.getD_eq_getD_getElem?, List.getElem?_toArray, List.getElem?_cons_zero, List.getElem?_cons_succ, Option.getD_some]) | (refine q_any rfl ?_; apply Exists.intro; refine ⟨fun w hw => ?_, ?_⟩; (have fct0 := F1.out w hw; have fct1 := F2.out w hw; have fct2 := F3.out w hw; go_simp; first | exact ⟨rfl, rfl⟩ | rfl | (go_at_call 23; (with_reducible refine (hasfl_lit _ na c3 al (i : Nat) (eZ l q).o _ (HSX.out.bel hw.out) (by omega)).mono ?_); rintro e w' ⟨rfl, hb⟩; exact ⟨rfl, hw.call hb⟩)); simp only [Act.put, Act.eval, List.setIfInBounds_toArray, List.set_cons_zero, List.set_cons_succ, Array.getD_eq_getD_getElem?, List.getElem?_toArray, List.getElem?_cons_zero, List.getElem?_cons_succ, Option.getD_some]))); refine wpQuiet_nil ?_; intro w2 hw2)
                      rw [HIN.out]
                      have HW2 := Lib.hid hw2
                      clear hw2
                      go_wp2
                      go_roundw
                      case rel => exact ⟨i + 1, by omega, by omega, by go_num, HRR.out.trans HW2.out⟩
                      case measure => simp [intOf]; omega
                    · have b2 : ((eZ l i).o == (eZ l q).o) = false := by simpa using hoq
                      clear hk2 hoq
                      go_wp2
                      (refine region_bel (by kernel_rfl) (by kernel_rfl) ?_; (repeat (first | ((with_reducible refine BigFrame.wpQuiet_skip ?_ ?_); exact rfl; simp only [Act.put, Act.eval, List.setIfInBounds_toArray, List.set_cons_zero, List.set_cons_succ, Array.getD_eq_getD_getElem?, List.getElem?_toArray, List.getElem?_cons_zero, List.getElem?_cons_succ, Option.getD_some]) | (refine q_move _ rfl rfl ?_; simp only [Act.put, Act.eval, List.setIfInBounds_toArray, List.set_cons_zero, List.set_cons_succ, Array.getD_eq_getD_getElem?, List.getElem?_toArray, List.getElem?_cons_zero, List.getElem?_cons_succ, Option.getD_some]) | (refine q_assign _ rfl rfl ?_; simp only [Act.put, Act.eval, List.setIfInBounds_toArray, List.set_cons_zero, List.set_cons_succ, Array.getD_eq_getD_getElem?, List.getElem?_toArray, List.getElem?_cons_zero, List.getElem?_cons_succ, Option.getD_some]) | (refine q_any rfl ?_; apply Exists.intro; refine ⟨fun w hw => ?_, ?_⟩; (have fct0 := F1.out w hw; have fct1 := F2.out w hw; have fct2 := F3.out w hw; go_simp; first | exact ⟨rfl, rfl⟩ | rfl | (go_at_call 23; (with_reducible refine (hasfl_lit _ na c3 al (i : Nat) (eZ l q).o _ (HSX.out.bel hw.out) (by omega)).mono ?_); rintro e w' ⟨rfl, hb⟩; exact ⟨rfl, hw.call hb⟩)); simp only [Act.put, Act.eval, List.setIfInBounds_toArray, List.set_cons_zero, List.set_cons_succ, Array.getD_eq_getD_getElem?, List.getElem?_toArray, List.getElem?_cons_zero, List.getElem?_cons_succ, Option.getD_some]))); refine wpQuiet_nil ?_; intro w2 hw2)
                      have HW2 := Lib.hid hw2
                      clear hw2
                      go_wp2
                      go_roundw
                      case rel => exact ⟨i + 1, by omega, by omega, by go_num, HRR.out.trans HW2.out⟩
                      case measure => simp [intOf]; omega
                  · have b1 : decide ((eZ l i).k ≤ 2) = false := decide_eq_false hk2
                    clear hk2
                    go_wp2
                    (refine region_bel (by kernel_rfl) (by kernel_rfl) ?_; (repeat (first | ((with_reducible refine BigFrame.wpQuiet_skip ?_ ?_); exact rfl; simp only [Act.put, Act.eval, List.setIfInBounds_toArray, List.set_cons_zero, List.set_cons_succ, Array.getD_eq_getD_getElem?, List.getElem?_toArray, List.getElem?_cons_zero, List.getElem?_cons_succ, Option.getD_some]) | (refine q_move _ rfl rfl ?_; simp only [Act.put, Act.eval, List.setIfInBounds_toArray, List.set_cons_zero, List.set_cons_succ, Array.getD_eq_getD_getElem?, List.getElem?_toArray, List.getElem?_cons_zero, List.getElem?_cons_succ, Option.getD_some]) | (refine q_assign _ rfl rfl ?_; simp only [Act.put, Act.eval, List.setIfInBounds_toArray, List.set_cons_zero, List.set_cons_succ, Array.getD_eq_getD_getElem?, List.getElem?_toArray, List.getElem?_cons_zero, List.getElem?_cons_succ, Option.getD_some]) | (refine q_any rfl ?_; apply Exists.intro; refine ⟨fun w hw => ?_, ?_⟩; (have fct0 := F1.out w hw; have fct1 := F2.out w hw; have fct2 := F3.out w hw; go_simp; first | exact ⟨rfl, rfl⟩ | rfl | (go_at_call 23; (with_reducible refine (hasfl_lit _ na c3 al (i : Nat) (eZ l q).o _ (HSX.out.bel hw.out) (by omega)).mono ?_); rintro e w' ⟨rfl, hb⟩; exact ⟨rfl, hw.call hb⟩)); simp only [Act.put, Act.eval, List.setIfInBounds_toArray, List.set_cons_zero, List.set_cons_succ, Array.getD_eq_getD_getElem?, List.getElem?_toArray, List.getElem?_cons_zero, List.getElem?_cons_succ, Option.getD_some]))); refine wpQuiet_nil ?_; intro w2 hw2)
                    have HW2 := Lib.hid hw2
                    clear hw2
                    go_wp2
                    go_roundw
                    case rel => exact ⟨i + 1, by omega, by omega, by go_num, HRR.out.trans HW2.out⟩
                    case measure => simp [intOf]; omega
                · obtain rfl : i = n := by omega
                  go_wp2
                  go_roundw
                  case rel => exact ⟨j + 1, by omega, by go_num, HRX.out.trans HRR.out⟩
                  case measure => simp [intOf]; omega
            · obtain rfl : j = na := by omega
              go_wp2
              go_ret
              exact ⟨rfl, HW9.out.trans HR.out⟩

set_option maxRecDepth 100000 in
theorem lifted (os : Os) (started : os.Started) (H : Type) (enc : TypeId × Value → H) :
    ReturnsInHanded {} Try.checked os 9 .any (Rows.guardFrontSpec.pre6 enc Try.prog Try.f9 Rows.guardFrontRow.domain false) (Rows.guardFrontSpec.post enc Try.prog Try.f9 false true false false) := by
  refine returnsInHanded_of_change_sized (C := Try.checked) own started (by kernel_rfl) Try.func9
    (ChangeSpec.witness6 (enc := enc) (C := Try.checked) false ⟨#[], #[.slice none 0 0, .int .i64 0], []⟩ 8 (by kernel_rfl) (by kernel_rfl) (by kernel_rfl) (by kernel_rfl)) ?_
  intro W base args ds gs before hval0 hW hcnd hsz0 _
  have hsz : (DataW.weightsEach Try.prog (Try.f9.params.toList ++ Rows.guardFrontSpec.plain.varTypes Try.prog) (ds ++ gs)).all (· ≤ reachBytes) = true := hsz0
  clear hsz0
  have hval : ∀ (j : Nat) t v, Try.f9.params[j]? = some t → args[j]? = some v → Value.okWide Try.prog W .any base t v := hval0
  have hW' := hW
  obtain ⟨p, q, hA0, hV, rfl, hfz, hnd⟩ := hW
  have hA : DataW.TrodAll enc Try.prog W 0 (fun _ => true) true Try.f9.params.toList args.toList ds p := hA0
  rw [Try.params9] at hA hval hsz
  obtain ⟨v0, vs0, d0, ds0, p0, q0, hargs, rfl, rfl, h0, r0⟩ := trodAll_cons hA
  obtain ⟨v1, vs1, d1, ds1, p1, q1, rfl, rfl, rfl, h1, r1⟩ := trodAll_cons r0
  obtain ⟨rfl, rfl, rfl⟩ := trodAll_nil r1
  obtain rfl : args = #[v0, v1] := by cases args; simp_all
  obtain ⟨rfl, rfl⟩ := trodVars_none hV
  have t0 := h0
  have lt0 : ∀ x ∈ p0, x.block < W.heap.size := by obtain ⟨m, hm⟩ := t0; exact DataW.trod_lt m _ _ _ hm
  have t1 := h1
  have lt1 : ∀ x ∈ p1, x.block < W.heap.size := by obtain ⟨m, hm⟩ := t1; exact DataW.trod_lt m _ _ _ hm
  obtain ⟨A0, n0, c0, l0, rfl, s0, m0, x0, g0, z0⟩ := open_evs Try.underlying22 Try.underlying50 ⟨rfl, rfl, rfl⟩ (by kernel_rfl) (by kernel_rfl) Try.underlying3 (hval 0 22 v0 rfl rfl) h0
  have y0 := reach_sl hsz (j := 0) rfl rfl Try.underlying22 (b := 24) (by kernel_rfl) z0
  obtain ⟨a1, rfl, _, _, x1⟩ := open_int Try.underlying3 (hval 1 3 v1 rfl rfl) h1
  have k1 := in64_of x1
  clear hA0 hval0
  refine (walk W A0 n0 c0 l0 s0 m0 x0 g0 a1 k1).mono fun e W' ⟨he, bel⟩ => ?_
  subst he
  exact ⟨_, rfl, _, _, _, [], _, [], hW', trodAll_mk1 (shut_bool Try.underlying4 _), (trodAll_cons_mk (Below.trod laidOut (by kernel_rfl) (of_decide_eq_true (by kernel_rfl)) t0 bel lt0) (trodAll_cons_mk (Below.trod laidOut (by kernel_rfl) (of_decide_eq_true (by kernel_rfl)) t1 bel lt1) trodAll_mk0)), rfl, bel.frame _, fun h => by cases h⟩

theorem over : Rows.guardFrontRow.holds Try.pinned (OpenSpec.ofChange Rows.guardFrontSpec) :=
  OpenClaim.holds_of_wide 9 Try.f9 rfl rfl rfl rfl rfl rfl rfl ⟨rfl, rfl, rfl, rfl, rfl⟩ rfl rfl rfl rfl rfl (by kernel_rfl) Try.func9 (by kernel_rfl)
    (of_decide_eq_true (by kernel_rfl)) (by unfold Func.isWrapper; first | (rw [if_pos (by decide +kernel)]; kernel_rfl) | (rw [if_neg (by decide +kernel)]; exact ⟨rfl, rfl⟩))
    (fun os started H enc _ => lifted os started H enc)

theorem proved : Rows.GuardFrontSaid := over
#print axioms proved
end Go.Proofs.Ytlifmedkadjdcaa.LGuardFront
