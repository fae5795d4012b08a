/- 'deadheatkeep.FastFront' returns true for every input and leaves its arguments as they are. No condition. -/
import Derived.Test.YtbkciglapambgaaOpen
import Derived.Test.YtbkciglapambgaaKeepFa
import Derived.Test.YtbkciglapambgaaFl
import Derived.Test.YtbkciglapambgaaRest
import Derived.Test.YtbkciglapambgaaRefTr
set_option linter.all false
set_option maxRecDepth 100000
namespace Go.Proofs.Ytbkciglapambgaa.LFastFront
open Go Go.ChangeShapes Go.WideShapes Go.ChangeAt Go.RowKit

set_option maxHeartbeats 8000000 in
theorem walk (W : World) (A : Option Addr) (n c : Nat) (l : List Ev) (s : Sl W A n l) (m : n ≤ c) (x : c ≤ maxLen) (g : ∀ e ∈ l, EvOk e) (t : Int) (kt : In64 t) :
    Calls Try.prog 8 #[.slice A n c, .int .i64 t] W fun e w' => e = .returned (.bool true) ∧ Below W.heap.size W w' := by
  unfold maxLen at x
  have hw0 : Bel W W := Bel.refl _
  have HL := Lib.hid s
  have HN := Lib.hid s.1
  clear s g
  cases h1 : (may l == 0)
  · clear kt
    go_enter Try.func8, Try.ntmps8
    go_wp2_with fail
    refine (fasted_any _).mono ?_
    rintro e1 w1 ⟨rfl, hb1⟩
    have hw1 := hw0.call hb1
    clear hb1
    go_wp2_with fail
    refine (may_any A n c l _ (HL.out.bel hw1)).mono ?_
    rintro e2 w2 ⟨rfl, hb2⟩
    have hw2 := hw1.call hb2
    clear hb2
    go_wp2
    go_ret
    exact ⟨rfl, hw2⟩
  · have hm := eq_of_beq h1
    have HM := Lib.hid hm
    have hn80 : n ≤ 80 := by rw [← HN.out]; exact ((may_iff l).1 hm).1
    have hk0 := Int.emod_nonneg t (show (n : Int) + 1 ≠ 0 by omega)
    have hk1 := Int.emod_lt_of_pos t (show (0 : Int) < n + 1 by omega)
    have HRT := Lib.hid (fun w => rest_any t (n + 1) kt (by omega) (by omega) w)
    clear kt hm
    generalize t % ((n : Int) + 1) = t' at *
    obtain ⟨k, rfl⟩ := Int.eq_ofNat_of_zero_le hk0
    have hk : k ≤ n := by omega
    have hkc : (k : Int) ≤ c := by omega
    have HMK := Lib.hid (may_takeF HM.out k)
    have HFE := Lib.hid (show fflags (l.take k) = gl (fkK l) l k by rw [fflags_ok HMK.out, List.length_take, HN.out, Nat.min_eq_left hk, glF_take])
    have HLW := Lib.hid (fun (e : Ev) (h : e ∈ gl (fkK l) l k) => gl_low h)
    obtain ⟨r, hsp, hhi⟩ : ∃ r, gl (fkK l) l n = gl (fkK l) l k ++ r ∧ ∀ e ∈ r, (k : Int) ≤ e.k := by
      obtain ⟨d, rfl⟩ := Nat.exists_eq_add_of_le hk
      exact gl_split (fkK l) l k d
    have HSP := Lib.hid (show fflags l = gl (fkK l) l k ++ r by rw [fflags_ok HM.out, HN.out]; exact hsp)
    have HHI := Lib.hid hhi
    have HSL := Lib.hid (show fslow l = slT l n by unfold fslow; rw [if_pos HM.out, HN.out])
    have HSK := Lib.hid (show fslow (l.take k) = slT l k by unfold fslow; rw [if_pos HMK.out, List.length_take, HN.out, Nat.min_eq_left hk, slT_take k (Nat.le_refl _)])
    have hsl : (slT l k : Int) ≤ slT l n := by have := slT_mono l hk; omega
    generalize slT l k = s1 at *
    generalize slT l n = s2 at *
    clear hk0 hk1 hsp hhi
    obtain ⟨fl, hfl⟩ : ∃ fl, gl (fkK l) l k = fl := ⟨_, rfl⟩
    obtain ⟨al, hal⟩ : ∃ al, fflags l = al := ⟨_, rfl⟩
    obtain ⟨nf, hnf⟩ : ∃ nf, fl.length = nf := ⟨_, rfl⟩
    obtain ⟨na, hna⟩ : ∃ na, al.length = na := ⟨_, rfl⟩
    have hsp := HSP.out
    have hfe := HFE.out
    have hlw := HLW.out
    rw [hfl, hal] at hsp
    rw [hfl] at hfe hlw
    have hle : nf ≤ na := by rw [← hnf, ← hna, hsp, List.length_append]; omega
    have HNF := Lib.hid (show al.take nf = fl by rw [hsp, ← hnf]; simp)
    have HAT := Lib.hid (fun (i : Nat) (h : i < nf) => show al[i]? = fl[i]? by rw [hsp]; exact List.getElem?_append_left (by omega))
    have HAR := Lib.hid (fun (i : Nat) (h : nf ≤ i) => show al[i]? = r[i - nf]? by rw [hsp, ← hnf]; exact List.getElem?_append_right (by omega))
    have hna80 : na ≤ 80 := by rw [← hna, ← hal, fflags_ok HM.out, HN.out]; exact Nat.le_trans (gl_len _ l n) hn80
    have HAL := Lib.hid hal
    have HLF := Lib.hid hfe
    have HLW2 := Lib.hid hlw
    have HNFL := Lib.hid hnf
    have HNA := Lib.hid hna
    clear hal hfe hlw hnf hna hsp hfl HSP HFE HLW
    go_enter Try.func8, Try.ntmps8
    go_wp2_with fail
    refine (fasted_any _).mono ?_
    rintro e1 w1 ⟨rfl, hb1⟩
    have hw1 := hw0.call hb1
    clear hb1
    go_wp2_with fail
    refine (may_any A n c l _ (HL.out.bel hw1)).mono ?_
    rintro e2 w2 ⟨rfl, hb2⟩
    have hw2 := hw1.call hb2
    clear hb2
    go_wp2_with fail
    refine (HRT.out _).mono ?_
    rintro _ _ ⟨rfl, rfl⟩
    go_wp2_with fail
    refine (frun_any A n c l _ (HL.out.bel hw2)).mono ?_
    rintro e3 w3 ⟨v3, rfl, hown3, hb3⟩
    have hw3 := hw2.call hb3
    clear hb3
    rw [HM.out]
    rw [HAL.out, HNA.out] at hown3
    obtain ⟨A3, c3, rfl, hs3, hq3, hx3⟩ := Sl.own hown3
    have HS3 := Lib.hid hs3
    have HQ3 := Lib.hid (And.intro hq3 hx3)
    clear hown3 hs3 hq3 hx3
    go_wp2_with fail
    refine (frun_any A k c (l.take k) _ ((HL.out.bel hw3).take hk)).mono ?_
    rintro e4 w4 ⟨v4, rfl, hown4, hb4⟩
    have hw4 := hw3.call hb4
    replace HS3 := Lib.hid (HS3.out.bel (Bel.of hb4))
    clear hb4
    rw [HMK.out]
    rw [HLF.out, HNFL.out] at hown4
    obtain ⟨A4, c4, rfl, hs4, hn4, hm4⟩ := Sl.own hown4
    have HS4 := Lib.hid hs4
    have HQ4 := Lib.hid (And.intro hn4 hm4)
    clear hown4 hs4 hn4 hm4
    go_wp2_with fail
    refine (fslow_any A n c l _ (HL.out.bel hw4)).mono ?_
    rintro e5 w5 ⟨rfl, hb5⟩
    have hw5 := hw4.call hb5
    replace HS3 := Lib.hid (HS3.out.bel (Bel.of hb5))
    replace HS4 := Lib.hid (HS4.out.bel (Bel.of hb5))
    clear hb5
    rw [HM.out, HSL.out]
    go_wp2_with fail
    refine (fslow_any A k c (l.take k) _ ((HL.out.bel hw5).take hk)).mono ?_
    rintro e6 w6 ⟨rfl, hb6⟩
    have hw6 := hw5.call hb6
    replace HS3 := Lib.hid (HS3.out.bel (Bel.of hb6))
    replace HS4 := Lib.hid (HS4.out.bel (Bel.of hb6))
    clear hb6
    rw [HMK.out, HSK.out]
    have HW4 := Lib.hid hw6
    clear hw6 hw5 hw4 hw3 hw2 hw1 hw0
    go_wp2
    go_loopw [13] (fun t13 wr => ∃ i : Nat, i ≤ nf ∧ t13 = .int .i64 i ∧ wr = w6) (fun t13 _ => nf - (intOf t13).toNat)
    case atStart => exact ⟨0, by omega, rfl, rfl⟩
    case round =>
      obtain ⟨i, hi, rfl, rfl⟩ := hrel
      by_cases hlt : i < nf
      · obtain ⟨bb, off, e, rfl, hbb, he, hrg⟩ := HS3.out.at_ (show i < na by omega)
        have h0 := HLW2.out e (by rw [HAT.out i hlt] at he; exact List.mem_of_getElem? he)
        have hlt' : (i : Int) < na := by omega
        have e0 : wr.cell? ⟨bb, off + i * 3, none⟩ = some (.int .i64 e.k) := hrg 0 (.int .i64 e.k) rfl
        have hek : e.k < k := h0.2
        clear hrg he h0
        go_wp2
        go_roundw
        case rel => exact ⟨i + 1, by omega, by go_num, by first | trivial | rfl⟩
        case measure => simp [intOf]; omega
      · obtain rfl : i = nf := by omega
        have hs5 : Sl wr A3 i fl := by have := HS3.out.take hle; rw [HNF.out] at this; exact this
        have HS5 := Lib.hid hs5
        clear hs5
        by_cases hna : i < na
        · obtain ⟨bb, off, e, rfl, hbb, he, hrg⟩ := HS3.out.at_ hna
          have h0 := HHI.out e (by rw [HAR.out i (Nat.le_refl _)] at he; exact List.mem_of_getElem? he)
          have hlt' : (i : Int) < na := by omega
          have hcc : (i : Int) ≤ c3 := by have := HQ3.out.1; omega
          have e0 : wr.cell? ⟨bb, off + i * 3, none⟩ = some (.int .i64 e.k) := hrg 0 (.int .i64 e.k) rfl
          clear hrg he
          go_wp2_with fail
          refine (eqfl_any A4 _ _ c4 _ c3 _ _ _ HS4.out HS5.out HQ4.out.1 (by have := HQ3.out.1; omega) HQ4.out.2 HQ3.out.2).mono ?_
          rintro e9 w9 ⟨rfl, hb9⟩
          rw [decide_eq_true rfl]
          have hw9 := HW4.out.call hb9
          clear hb9
          go_wp2
          go_ret
          exact ⟨rfl, hw9⟩
        · obtain rfl : i = na := by omega
          have hcc : (i : Int) ≤ c3 := by have := HQ3.out.1; omega
          go_wp2_with fail
          refine (eqfl_any A4 A3 _ c4 _ c3 _ _ _ HS4.out HS5.out HQ4.out.1 (by have := HQ3.out.1; omega) HQ4.out.2 HQ3.out.2).mono ?_
          rintro e9 w9 ⟨rfl, hb9⟩
          rw [decide_eq_true rfl]
          have hw9 := HW4.out.call hb9
          clear hb9
          go_wp2
          go_ret
          exact ⟨rfl, hw9⟩

set_option maxRecDepth 100000 in
theorem lifted (os : Os) (started : os.Started) (H : Type) (enc : TypeId × Value → H) :
    ReturnsInHanded {} Try.checked os 8 .any (Rows.fastFrontSpec.pre6 enc Try.prog Try.f8 Rows.fastFrontRow.domain false) (Rows.fastFrontSpec.post enc Try.prog Try.f8 false true false false) := by
  refine returnsInHanded_of_change_sized (C := Try.checked) own started (by kernel_rfl) Try.func8
    (ChangeSpec.witness6 (enc := enc) (C := Try.checked) false ⟨#[], #[.slice none 0 0, .int .i64 0], []⟩ 8 (by kernel_rfl) (by kernel_rfl) (by kernel_rfl) (by kernel_rfl)) ?_
  intro W base args ds gs before hval0 hW hcnd hsz0 _
  have hsz : (DataW.weightsEach Try.prog (Try.f8.params.toList ++ Rows.fastFrontSpec.plain.varTypes Try.prog) (ds ++ gs)).all (· ≤ reachBytes) = true := hsz0
  clear hsz0
  have hval : ∀ (j : Nat) t v, Try.f8.params[j]? = some t → args[j]? = some v → Value.okWide Try.prog W .any base t v := hval0
  have hW' := hW
  obtain ⟨p, q, hA0, hV, rfl, hfz, hnd⟩ := hW
  have hA : DataW.TrodAll enc Try.prog W 0 (fun _ => true) true Try.f8.params.toList args.toList ds p := hA0
  rw [Try.params8] at hA hval hsz
  obtain ⟨v0, vs0, d0, ds0, p0, q0, hargs, rfl, rfl, h0, r0⟩ := trodAll_cons hA
  obtain ⟨v1, vs1, d1, ds1, p1, q1, rfl, rfl, rfl, h1, r1⟩ := trodAll_cons r0
  obtain ⟨rfl, rfl, rfl⟩ := trodAll_nil r1
  obtain rfl : args = #[v0, v1] := by cases args; simp_all
  obtain ⟨rfl, rfl⟩ := trodVars_none hV
  have t0 := h0
  have lt0 : ∀ x ∈ p0, x.block < W.heap.size := by obtain ⟨m, hm⟩ := t0; exact DataW.trod_lt m _ _ _ hm
  have t1 := h1
  have lt1 : ∀ x ∈ p1, x.block < W.heap.size := by obtain ⟨m, hm⟩ := t1; exact DataW.trod_lt m _ _ _ hm
  obtain ⟨A0, n0, c0, l0, rfl, s0, m0, x0, g0, z0⟩ := open_evs Try.underlying22 Try.underlying50 ⟨rfl, rfl, rfl⟩ (by kernel_rfl) (by kernel_rfl) Try.underlying3 (hval 0 22 v0 rfl rfl) h0
  have y0 := reach_sl hsz (j := 0) rfl rfl Try.underlying22 (b := 24) (by kernel_rfl) z0
  obtain ⟨a1, rfl, _, _, x1⟩ := open_int Try.underlying3 (hval 1 3 v1 rfl rfl) h1
  have k1 := in64_of x1
  clear hA0 hval0
  refine (walk W A0 n0 c0 l0 s0 m0 x0 g0 a1 k1).mono fun e W' ⟨he, bel⟩ => ?_
  subst he
  exact ⟨_, rfl, _, _, _, [], _, [], hW', trodAll_mk1 (shut_bool Try.underlying4 _), (trodAll_cons_mk (Below.trod laidOut (by kernel_rfl) (of_decide_eq_true (by kernel_rfl)) t0 bel lt0) (trodAll_cons_mk (Below.trod laidOut (by kernel_rfl) (of_decide_eq_true (by kernel_rfl)) t1 bel lt1) trodAll_mk0)), rfl, bel.frame _, fun h => by cases h⟩

theorem over : Rows.fastFrontRow.holds Try.pinned (OpenSpec.ofChange Rows.fastFrontSpec) :=
  OpenClaim.holds_of_wide 8 Try.f8 rfl rfl rfl rfl rfl rfl rfl ⟨rfl, rfl, rfl, rfl, rfl⟩ rfl rfl rfl rfl rfl (by kernel_rfl) Try.func8 (by kernel_rfl)
    (of_decide_eq_true (by kernel_rfl)) (by unfold Func.isWrapper; first | (rw [if_pos (by decide +kernel)]; kernel_rfl) | (rw [if_neg (by decide +kernel)]; exact ⟨rfl, rfl⟩))
    (fun os started H enc _ => lifted os started H enc)

theorem proved : Rows.FastFrontSaid := over
#print axioms proved
end Go.Proofs.Ytbkciglapambgaa.LFastFront
