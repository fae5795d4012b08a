/- 'deadheatkeep.FastTrue' (FLANAGAN, FREUND) returns true for every input and leaves its arguments as they are. No condition. -/
import Derived.Test.YtbkciglapambgaaOpen
import Derived.Test.YtbkciglapambgaaKeepFa
import Derived.Test.YtbkciglapambgaaAll
import Derived.Deep.DeepCutAuto
set_option linter.all false
set_option maxRecDepth 100000
namespace Go.Proofs.Ytbkciglapambgaa.LFastTrue
open Go Go.ChangeShapes Go.WideShapes Go.ChangeAt Go.RowKit

def hitB (e : Ev) (r : Rc) : Bool := (r.b : Int) == e.k && (r.v == e.t && r.k == e.o)
theorem hit_snoc {rs : List Rc} {i : Nat} {r : Rc} {e : Ev} (h : rs[i]? = some r) : (rs.take (i + 1)).any (hitB e) = ((rs.take i).any (hitB e) || hitB e r) := by
  rw [rc_ptake h, List.any_append]; simp
theorem hit_all {l : List Ev} (hm : may l = 0) {e : Ev} (he : e ∈ fflags l) : (rcs l).any (hitB e) = true := by
  rw [fflags_ok hm] at he
  obtain ⟨j, hj, h0, rfl⟩ := gl_mem.1 he
  have h := fk_true hm hj h0
  unfold hasK at h
  simp only [List.any_eq_true, Bool.and_eq_true, beq_iff_eq] at h
  obtain ⟨r, hr, hb, hk⟩ := h
  obtain ⟨a, b, ha, hb', _, hv, _, hc, _⟩ := mem_rcsA hr
  have ho := (conf_bin (l := l) hc).1
  rw [rcs_ok hm, List.any_eq_true]
  refine ⟨r, hr, ?_⟩
  unfold hitB
  simp only [Bool.and_eq_true, beq_iff_eq]
  rw [hb] at hb'
  exact ⟨by omega, by rw [hv, ho, eZ_at hb'], hk⟩
theorem allx {l : List Ev} (A : Option Addr) (n c : Nat) (w : World) (hl : Sl w A n l) : Calls Try.prog 19 #[.slice A n c] w (AllPost w l) := by
  by_cases hm : may l = 0
  · exact all_ok A n c l w hl hm
  · refine (all_bad A n c l w hl hm).mono ?_
    rintro e w' ⟨rfl, hb⟩
    exact ⟨_, rfl, by rw [rcs_no hm]; exact World.ownsRow_nil _ _ _ _, hb⟩
set_option maxHeartbeats 8000000 in
theorem walk (W : World) (A : Option Addr) (n c : Nat) (l : List Ev) (s : Sl W A n l) (m : n ≤ c) (x : c ≤ maxLen) (g : ∀ e ∈ l, EvOk e) :
    Calls Try.prog 5 #[.slice A n c] W fun e w' => e = .returned (.bool true) ∧ Below W.heap.size W w' := by
  have hw0 : Bel W W := Bel.refl _
  have HL := Lib.hid s
  have HN := Lib.hid s.1
  clear s g x m
  by_cases hm : may l = 0
  · have HM := Lib.hid hm
    have hn80 : n ≤ 80 := by rw [← HN.out]; exact ((may_iff l).1 hm).1
    obtain ⟨fl, hfl⟩ : ∃ fl, fflags l = fl := ⟨_, rfl⟩
    obtain ⟨nf, hnf⟩ : ∃ nf, fl.length = nf := ⟨_, rfl⟩
    obtain ⟨rs, hrs⟩ : ∃ rs, rcs l = rs := ⟨_, rfl⟩
    obtain ⟨nr, hnr⟩ : ∃ nr, rs.length = nr := ⟨_, rfl⟩
    have hnf80 : nf ≤ 80 := by rw [← hnf, ← hfl, fflags_ok hm, HN.out]; exact Nat.le_trans (gl_len _ l n) hn80
    have hnr80 : nr ≤ 6480 := by rw [← hnr, ← hrs, rcs_ok hm]; unfold rcsA; rw [List.length_map]; exact prs_small ((may_iff l).1 hm).1 (Nat.le_refl _) (Nat.zero_le _)
    have HIT := Lib.hid (fun (e : Ev) (h : e ∈ fl) => show rs.any (hitB e) = true by rw [← hfl] at h; rw [← hrs]; exact hit_all hm h)
    have HFL := Lib.hid hfl
    have HNF := Lib.hid hnf
    have HRS := Lib.hid hrs
    have HNR := Lib.hid hnr
    clear hm hfl hnf hrs hnr
    go_enter Try.func5, Try.ntmps5
    go_wp2_with fail
    refine (fasted_any _).mono ?_
    rintro e1 w1 ⟨rfl, hb1⟩
    have hw1 := hw0.call hb1
    clear hb1
    go_wp2_with fail
    refine (frun_any A n c l _ (HL.out.bel hw1)).mono ?_
    rintro e2 w2 ⟨v2, rfl, hown2, hb2⟩
    have hw2 := hw1.call hb2
    clear hb2
    rw [HM.out]
    rw [HFL.out, HNF.out] at hown2
    obtain ⟨A2, c2, rfl, hs2, _⟩ := Sl.own hown2
    have HS2 := Lib.hid hs2
    clear hown2 hs2
    go_wp2_with fail
    refine (allx A n c _ (HL.out.bel hw2)).mono ?_
    rintro e3 w3 ⟨v3, rfl, hown3, hb3⟩
    have hw3 := hw2.call hb3
    replace HS2 := Lib.hid (HS2.out.bel (Bel.of hb3))
    clear hb3
    rw [HM.out]
    rw [HRS.out, HNR.out] at hown3
    obtain ⟨A3, c3, rfl, hs3, _⟩ := SlR.own hown3
    have HS3 := Lib.hid hs3
    have HW3 := Lib.hid hw3
    clear hown3 hs3 hw3 hw2 hw1 hw0
    go_wp2
    go_loopw [36] (fun t36 wr => ∃ i : Nat, i ≤ nf ∧ t36 = .int .i64 i ∧ Bel w3 wr) (fun t36 _ => nf - (intOf t36).toNat)
    case atStart => exact ⟨0, by omega, rfl, Bel.refl _⟩
    case round =>
      obtain ⟨i, hi, rfl, hr⟩ := hrel
      have HR := Lib.hid hr
      clear hr
      by_cases hlt : i < nf
      · have hlt' : (i : Int) < nf := by omega
        obtain ⟨fb, foff, ⟨ea, ev, ek⟩, rfl, hfb, he, hrg⟩ := HS2.out.at_ hlt
        have HH := Lib.hid (HIT.out _ (List.mem_of_getElem? he))
        have hR := Lib.hid (rangeAt_below HR.out.out hfb hrg)
        have HRX := Lib.hid (HR.out.trans (ewld_below wr ⟨ea, ev, ek⟩ 33))
        have HX := Lib.hid (ewld_box wr ⟨ea, ev, ek⟩ 33)
        clear he hrg
        go_wp2_with (first | (refine load_ev TFl _ rfl rfl rfl hR.out ?_) | (refine ewld_store TFl _ _ rfl rfl _ rfl rfl rfl ?_))
        generalize ewld wr ⟨ea, ev, ek⟩ 33 = w4 at *
        generalize wr.heap.size = X at *
        go_loopw [9, 42] (fun b t42 wr => ∃ k : Nat, k ≤ nr ∧ t42 = .int .i64 k ∧ b = .bool ((rs.take k).any (hitB ⟨ea, ev, ek⟩)) ∧ Bel w3 wr ∧ Box wr X (evv ⟨ea, ev, ek⟩) 33) (fun _ t42 _ => nr - (intOf t42).toNat)
        case atStart => exact ⟨0, by omega, rfl, rfl, HRX.out, HX.out⟩
        case round =>
          obtain ⟨k, hk, rfl, rfl, hr, hbx⟩ := hrel
          have HR4 := Lib.hid hr
          have HX4 := Lib.hid hbx
          clear hr hbx hR HR HRX HX
          by_cases hlk : k < nr
          · have hlk' : (k : Int) < nr := by omega
            obtain ⟨rb, roff, r, rfl, hrb, hre, hrg⟩ := HS3.out.at_ hlk
            have hR := Lib.hid (rangeAt_below HR4.out.out hrb hrg)
            have hbw := rwld_below wr r 42
            have HRX := Lib.hid (HR4.out.trans hbw)
            have hx5 := Bel.box hbw HX4.out
            have HX5 := Lib.hid hx5
            have HY := rwld_box wr r 42
            have HE := Lib.hid (hit_snoc (e := ⟨ea, ev, ek⟩) hre)
            have hh : hitB ⟨ea, ev, ek⟩ r = ((r.b : Int) == ea && (r.v == ev && r.k == ek)) := rfl
            have HHB := Lib.hid hh
            have a0 := hx5.cell 0 (v := .int .i64 ea) rfl
            have a1 := hx5.cell 1 (v := .int .i64 ev) rfl
            have a2 := hx5.cell 2 (v := .int .i64 ek) rfl
            have c1 := HY.cell 1 (v := .int .i64 r.b) rfl
            have c2 := HY.cell 2 (v := .int .i64 r.v) rfl
            have c3 := HY.cell 3 (v := .int .i64 r.k) rfl
            clear hrg hre HY hh hbw hx5
            generalize (rs.take k).any (hitB ⟨ea, ev, ek⟩) = p at *
            go_upto_region 14 with (first | (refine load_rc TRc _ rfl rfl rfl hR.out ?_) | (refine rwld_store TRc _ _ rfl rfl _ rfl rfl rfl ?_))
            generalize rwld wr r 42 = w5 at *
            cases p
            · cases q1 : ((r.b : Int) == ea)
              · have HS := Lib.hid (show (rs.take (k + 1)).any (hitB ⟨ea, ev, ek⟩) = false by rw [HE.out, HHB.out, q1]; rfl)
                go_wp2
                go_roundw
                case rel => exact ⟨k + 1, by omega, by go_num, by rw [HS.out], HRX.out, HX5.out⟩
                case measure => simp [intOf]; omega
              · cases q2 : (r.v == ev)
                · have HS := Lib.hid (show (rs.take (k + 1)).any (hitB ⟨ea, ev, ek⟩) = false by rw [HE.out, HHB.out, q1, q2]; rfl)
                  go_wp2
                  go_roundw
                  case rel => exact ⟨k + 1, by omega, by go_num, by rw [HS.out], HRX.out, HX5.out⟩
                  case measure => simp [intOf]; omega
                · have HS := Lib.hid (show (rs.take (k + 1)).any (hitB ⟨ea, ev, ek⟩) = (r.k == ek) by rw [HE.out, HHB.out, q1, q2]; rfl)
                  go_wp2
                  go_roundw
                  case rel => exact ⟨k + 1, by omega, by go_num, by rw [HS.out], HRX.out, HX5.out⟩
                  case measure => simp [intOf]; omega
            · have HS := Lib.hid (show (rs.take (k + 1)).any (hitB ⟨ea, ev, ek⟩) = true by rw [HE.out]; rfl)
              go_wp2
              go_roundw
              case rel => exact ⟨k + 1, by omega, by go_num, by rw [HS.out], HRX.out, HX5.out⟩
              case measure => simp [intOf]; omega
          · obtain rfl : k = nr := by omega
            have HT := Lib.hid (show (rs.take k).any (hitB ⟨ea, ev, ek⟩) = true by rw [← HNR.out, List.take_length]; exact HH.out)
            rw [HT.out]
            go_wp2
            go_roundw
            case rel => exact ⟨i + 1, by omega, by go_num, HR4.out⟩
            case measure => simp [intOf]; omega
      · obtain rfl : i = nf := by omega
        go_wp2
        go_ret
        exact ⟨rfl, HW3.out.trans HR.out⟩
  · have h1 : (may l != 0) = true := by simp [hm]
    have h2 : (may l == may l) = true := by simp
    have HF := Lib.hid (show (fflags l).length = 0 by rw [fflags_no hm]; rfl)
    clear hm
    go_enter Try.func5, Try.ntmps5
    go_wp2_with fail
    refine (fasted_any _).mono ?_
    rintro e1 w1 ⟨rfl, hb1⟩
    have hw1 := hw0.call hb1
    clear hb1
    go_wp2_with fail
    refine (frun_any A n c l _ (HL.out.bel hw1)).mono ?_
    rintro e2 w2 ⟨v2, rfl, hown2, hb2⟩
    have hw2 := hw1.call hb2
    clear hb2
    obtain ⟨A2, c2, rfl, hs2, _⟩ := Sl.own hown2
    rw [HF.out]
    clear hown2 hs2
    go_wp2_with fail
    refine (allx A n c _ (HL.out.bel hw2)).mono ?_
    rintro e3 w3 ⟨v3, rfl, hown3, hb3⟩
    have hw3 := hw2.call hb3
    clear hb3
    clear hown3
    go_wp2
    go_ret
    exact ⟨rfl, hw3⟩

set_option maxRecDepth 100000 in
theorem lifted (os : Os) (started : os.Started) (H : Type) (enc : TypeId × Value → H) :
    ReturnsInHanded {} Try.checked os 5 .any (Rows.fastTrueSpec.pre6 enc Try.prog Try.f5 Rows.fastTrueRow.domain false) (Rows.fastTrueSpec.post enc Try.prog Try.f5 false true false false) := by
  refine returnsInHanded_of_change_sized (C := Try.checked) own started (by kernel_rfl) Try.func5
    (ChangeSpec.witness6 (enc := enc) (C := Try.checked) false ⟨#[], #[.slice none 0 0], []⟩ 8 (by kernel_rfl) (by kernel_rfl) (by kernel_rfl) (by kernel_rfl)) ?_
  intro W base args ds gs before hval0 hW hcnd hsz0 _
  have hsz : (DataW.weightsEach Try.prog (Try.f5.params.toList ++ Rows.fastTrueSpec.plain.varTypes Try.prog) (ds ++ gs)).all (· ≤ reachBytes) = true := hsz0
  clear hsz0
  have hval : ∀ (j : Nat) t v, Try.f5.params[j]? = some t → args[j]? = some v → Value.okWide Try.prog W .any base t v := hval0
  have hW' := hW
  obtain ⟨p, q, hA0, hV, rfl, hfz, hnd⟩ := hW
  have hA : DataW.TrodAll enc Try.prog W 0 (fun _ => true) true Try.f5.params.toList args.toList ds p := hA0
  rw [Try.params5] at hA hval hsz
  obtain ⟨v0, vs0, d0, ds0, p0, q0, hargs, rfl, rfl, h0, r0⟩ := trodAll_cons hA
  obtain ⟨rfl, rfl, rfl⟩ := trodAll_nil r0
  obtain rfl : args = #[v0] := by cases args; simp_all
  obtain ⟨rfl, rfl⟩ := trodVars_none hV
  have t0 := h0
  have lt0 : ∀ x ∈ p0, x.block < W.heap.size := by obtain ⟨m, hm⟩ := t0; exact DataW.trod_lt m _ _ _ hm
  obtain ⟨A0, n0, c0, l0, rfl, s0, m0, x0, g0, z0⟩ := open_evs Try.underlying22 Try.underlying50 ⟨rfl, rfl, rfl⟩ (by kernel_rfl) (by kernel_rfl) Try.underlying3 (hval 0 22 v0 rfl rfl) h0
  have y0 := reach_sl hsz (j := 0) rfl rfl Try.underlying22 (b := 24) (by kernel_rfl) z0
  clear hA0 hval0
  refine (walk W A0 n0 c0 l0 s0 m0 x0 g0).mono fun e W' ⟨he, bel⟩ => ?_
  subst he
  exact ⟨_, rfl, _, _, _, [], _, [], hW', trodAll_mk1 (shut_bool Try.underlying4 _), (trodAll_cons_mk (Below.trod laidOut (by kernel_rfl) (of_decide_eq_true (by kernel_rfl)) t0 bel lt0) trodAll_mk0), rfl, bel.frame _, fun h => by cases h⟩

theorem over : Rows.fastTrueRow.holds Try.pinned (OpenSpec.ofChange Rows.fastTrueSpec) :=
  OpenClaim.holds_of_wide 5 Try.f5 rfl rfl rfl rfl rfl rfl rfl ⟨rfl, rfl, rfl, rfl, rfl⟩ rfl rfl rfl rfl rfl (by kernel_rfl) Try.func5 (by kernel_rfl)
    (of_decide_eq_true (by kernel_rfl)) (by unfold Func.isWrapper; first | (rw [if_pos (by decide +kernel)]; kernel_rfl) | (rw [if_neg (by decide +kernel)]; exact ⟨rfl, rfl⟩))
    (fun os started H enc _ => lifted os started H enc)

theorem proved : Rows.FastTrueSaid := over
#print axioms proved
end Go.Proofs.Ytbkciglapambgaa.LFastTrue
