/- 'deadheatkeep.GuardSafe' returns true for every input and leaves its arguments as they are. No condition. -/
import Derived.Test.YtlifmedkadjdcaaOpen
import Derived.Test.YtlifmedkadjdcaaKeepGu
import Derived.Test.YtlifmedkadjdcaaSec
import Derived.Test.YtlifmedkadjdcaaEqInt
set_option linter.all false
set_option maxRecDepth 100000
namespace Go.Proofs.Ytlifmedkadjdcaa.LGuardSafe
open Go Go.ChangeShapes Go.WideShapes Go.ChangeAt Go.RowKit

theorem com_some {p : Nat → Bool} (h : hset p ≠ 0) : ∃ q, q < 5 ∧ p q = true := by
  apply Classical.byContradiction
  intro hn
  apply h
  rw [hset_emp]
  unfold emp
  rw [List.all_eq_true]
  intro q hq
  cases hp : p q
  · rfl
  · exact absurd ⟨q, List.mem_range.1 hq, hp⟩ hn
/-- Under a common lock no two accesses race. -/
theorem no_race {l : List Ev} (hm : may l = 0) {x q : Nat} (hc : comTo l x l.length q = true) : ((x : Nat) : Int) ∉ dd ((rcs l).map fV) := by
  rw [dd_mem, List.mem_map]
  rintro ⟨r, hr, hv⟩
  unfold rcs at hr
  rw [if_pos hm] at hr
  obtain ⟨a, b, ha, hb, hij, hav, _, hcf, hbf⟩ := mem_rcsA hr
  obtain ⟨ho, hka, hkb, _⟩ := conf_bin (l := l) hcf
  have hj : r.b < l.length := (List.getElem?_eq_some_iff.1 hb).1
  have hi : r.a < l.length := by omega
  have za := eZ_at ha
  have zb := eZ_at hb
  have ta := isEv_t (wrong_isEv (wrong_at hm ha))
  have tb := isEv_t (wrong_isEv (wrong_at hm hb))
  have hao : a.o = (x : Nat) := by rw [← hv, ← hav]; rfl
  have oa : owner (l.take r.a) q = a.t := by
    have h1 := com_held hi hc (by unfold acB kZ; rw [za]; exact decide_eq_true hka) (by unfold oZ; rw [za, hao]; rfl)
    have h2 : owner (l.take r.a) q = (eZ l r.a).t := of_decide_eq_true h1
    rw [za] at h2; exact h2
  have ob : owner (l.take r.b) q = b.t := by
    have h1 := com_held hj hc (by unfold acB kZ; rw [zb]; exact decide_eq_true hkb) (by unfold oZ; rw [zb, ← ho, hao]; rfl)
    have h2 : owner (l.take r.b) q = (eZ l r.b).t := of_decide_eq_true h1
    rw [zb] at h2; exact h2
  have hbef : bef l r.a r.b = true := by
    by_cases ht : a.t = b.t
    · exact dir_bef (thread_dir ha hb hij ht)
    · obtain ⟨s, e, h1, h2, he, h3, h4, h5⟩ := lost hm ta.1 oa (show r.a ≤ r.b by omega) (by omega) (by rw [ob]; exact Ne.symm ht)
      have hne : s ≠ r.a := fun e1 => by
        subst e1; rw [ha] at he; cases he; omega
      have or := owner_rel he h3
      obtain ⟨u, f, g1, g2, hf, g3, g4, g5⟩ := gained (l := l) (o := q) (t := b.t) tb.1 (i := s + 1) (by rw [← h5, or]; omega) (j := r.b) (by omega) (by omega) ob
      exact bef_trans (dir_bef (thread_dir ha he (by omega) h4.symm)) (bef_trans (dir_bef (handed_dir he hf (by omega) h3 g3 (by omega))) (dir_bef (thread_dir hf hb g2 g4)))
  rw [hbef] at hbf
  cases hbf
set_option maxHeartbeats 8000000 in
theorem walk (W : World) (A : Option Addr) (n c : Nat) (l : List Ev) (s : Sl W A n l) (m : n ≤ c) (x : c ≤ maxLen) (g : ∀ e ∈ l, EvOk e) :
    Calls Try.prog 6 #[.slice A n c] W fun e w' => e = .returned (.bool true) ∧ Below W.heap.size W w' := by
  unfold maxLen at x
  have hw0 : Bel W W := Bel.refl _
  have HL := Lib.hid s
  clear s g
  cases h1 : (may l == 0)
  · go_enter Try.func6, Try.ntmps6
    go_wp2_with fail
    refine (guarded_any _).mono ?_
    rintro e1 w1 ⟨rfl, hb1⟩
    have hw1 := hw0.call hb1
    clear hb1
    go_wp2_with fail
    refine (may_any A n c l _ (HL.out.bel hw1)).mono ?_
    rintro e2 w2 ⟨rfl, hb2⟩
    have hw2 := hw1.call hb2
    clear hb2
    go_wp2
    go_ret
    exact ⟨rfl, hw2⟩
  · have HM := Lib.hid (eq_of_beq h1)
    have HWQ := Lib.hid (show warns l = wl l l.length by unfold warns; rw [if_pos HM.out])
    have hfl80 : (wl l l.length).length ≤ 80 := Nat.le_trans (wl_len l _) ((may_iff l).1 HM.out).1
    obtain ⟨nf, hnf⟩ : ∃ nf, (wl l l.length).length = nf := ⟨_, rfl⟩
    have HNF := Lib.hid hnf
    rw [hnf] at hfl80
    clear hnf
    go_enter Try.func6, Try.ntmps6
    go_wp2_with fail
    refine (guarded_any _).mono ?_
    rintro e1 w1 ⟨rfl, hb1⟩
    have hw1 := hw0.call hb1
    clear hb1
    go_wp2_with fail
    refine (may_any A n c l _ (HL.out.bel hw1)).mono ?_
    rintro e2 w2 ⟨rfl, hb2⟩
    have hw2 := hw1.call hb2
    clear hb2
    go_wp2_with fail
    refine (warns_any A n c l _ (HL.out.bel hw2) m).mono ?_
    rintro e3 w3 ⟨v3, rfl, hown3, hb3⟩
    have hw3 := hw2.call hb3
    clear hb3
    rw [HM.out]
    rw [HWQ.out, HNF.out] at hown3
    obtain ⟨A3, c3, rfl, hs3, hq3, hx3⟩ := Sl.own hown3
    have HS3 := Lib.hid hs3
    clear hown3 hs3 hq3 hx3
    go_wp2_with fail
    refine (vars_any A n c l _ (HL.out.bel hw3)).mono ?_
    rintro e4 w4 ⟨v4, rfl, hs4, hb4⟩
    have hw4 := hw3.call hb4
    replace HS3 := Lib.hid (HS3.out.bel (Bel.of hb4))
    clear hb4
    rw [HM.out]
    obtain ⟨A4, n4, c4, rfl, hsi4, hmi4⟩ := SlI.form hs4
    have HS4 := Lib.hid hsi4
    have HMI := Lib.hid hmi4
    clear hs4 hsi4 hmi4
    have HW4 := Lib.hid hw4
    clear hw4 hw3 hw2 hw1 hw0
    go_wp2
    generalize hws : w4 = wa at *
    clear hws
    go_loopw [27] (fun t wr => ∃ k : Nat, k ≤ 8 ∧ t = .int .i64 k ∧ Bel wa wr) (fun t _ => 8 - (intOf t).toNat)
    case atStart => exact ⟨0, by omega, rfl, Bel.refl _⟩
    case round =>
      obtain ⟨y, hy, rfl, hr⟩ := hrel
      have HR := Lib.hid hr
      clear hr
      by_cases hlt : y < 8
      · have hlt' : (y : Int) < 8 := by omega
        have HC := Lib.hid (show comR l y = hset (comTo l y l.length) ∧ comE l y = 0 by
          unfold comR comE
          rw [if_pos ⟨HM.out, by omega, by omega⟩, if_pos HM.out, if_pos ⟨by omega, by omega⟩]
          exact ⟨rfl, rfl⟩)
        go_wp2_with fail
        refine (common_any A n c l y _ ((HL.out.bel HW4.out).bel HR.out) m).mono ?_
        rintro e3 w5 ⟨rfl, hb5⟩
        rw [HC.out.1, HC.out.2]
        have HR5 := Lib.hid (HR.out.call hb5)
        clear hb5
        have HQ := Lib.hid (fun (h : hset (comTo l y l.length) ≠ 0) => com_some h)
        generalize hcc : hset (comTo l y l.length) = cc at *
        clear hcc
        have HNE := Lib.hid (show cc ≠ 0 → ∀ e ∈ wl l l.length, (e.t == (y : Int)) = false from fun h e he => by
          obtain ⟨q, hq, hcq⟩ := HQ.out h
          obtain ⟨j, h1, h2, h3⟩ := wl_mem.1 he
          rw [beq_eq_false_iff_ne]
          intro h9
          rw [h3] at h9
          dsimp only at h9
          rw [wn_common hq h1 hcq (by unfold oZ; omega)] at h2
          cases h2)
        have HHA := Lib.hid (show cc ≠ 0 → decide ((y : Int) ∈ dd ((rcs l).map fV)) = false from fun h => by
          obtain ⟨q, hq, hcq⟩ := HQ.out h
          exact decide_eq_false (no_race HM.out hcq))
        go_wp2
        generalize hws : w5 = wS at *
        clear hws
        by_cases hz : cc = 0
        · have hzb : (cc != 0) = false := by simp [hz]
          clear hz
          go_loopw [40] (fun t wr => ∃ j : Nat, j ≤ nf ∧ t = .int .i64 j ∧ Bel wS wr) (fun t _ => nf - (intOf t).toNat)
          case atStart => exact ⟨0, by omega, rfl, Bel.refl _⟩
          case round =>
            obtain ⟨j, hj, rfl, hr⟩ := hrel
            have HRR := Lib.hid hr
            clear hr
            by_cases hjn : j < nf
            · have hjn' : (j : Int) < nf := by omega
              obtain ⟨bb, off, e, rfl, hbb, he, hrg⟩ := (HS3.out.bel ((Bel.of HR5.out).trans HRR.out)).at_ hjn
              have hR := Lib.hid hrg
              have HRX := Lib.hid (HRR.out.trans (Bel.of (ewld_below wr e 40)))
              clear hrg hbb he
              go_wp2_with (first | (refine load_ev TFl _ rfl rfl rfl hR.out ?_) | (refine ewld_store TFl _ _ rfl rfl _ rfl rfl rfl ?_))
              go_roundw
              case rel => exact ⟨j + 1, by omega, by go_num, HRX.out⟩
              case measure => simp [intOf]; omega
            · obtain rfl : j = nf := by omega
              go_wp2
              go_roundw
              case rel => exact ⟨y + 1, by omega, by go_num, (Bel.of HR5.out).trans HRR.out⟩
              case measure => simp [intOf]; omega
        · have hzb : (cc != 0) = true := by simpa using hz
          have HZ := Lib.hid hz
          clear hz
          go_loopw [40] (fun t wr => ∃ j : Nat, j ≤ nf ∧ t = .int .i64 j ∧ Bel wS wr) (fun t _ => nf - (intOf t).toNat)
          case atStart => exact ⟨0, by omega, rfl, Bel.refl _⟩
          case round =>
            obtain ⟨j, hj, rfl, hr⟩ := hrel
            have HRR := Lib.hid hr
            clear hr
            by_cases hjn : j < nf
            · have hjn' : (j : Int) < nf := by omega
              obtain ⟨bb, off, e, rfl, hbb, he, hrg⟩ := (HS3.out.bel ((Bel.of HR5.out).trans HRR.out)).at_ hjn
              have hR := Lib.hid hrg
              have HX := Lib.hid (ewld_box wr e 40)
              have d1 := HX.out.cell 1 (v := .int .i64 e.t) rfl
              have hne := HNE.out HZ.out e (List.mem_of_getElem? he)
              have HRX := Lib.hid (HRR.out.trans (Bel.of (ewld_below wr e 40)))
              clear hrg hbb he
              go_wp2_with (first | (refine load_ev TFl _ rfl rfl rfl hR.out ?_) | (refine ewld_store TFl _ _ rfl rfl _ rfl rfl rfl ?_))
              go_roundw
              case rel => exact ⟨j + 1, by omega, by go_num, HRX.out⟩
              case measure => simp [intOf]; omega
            · obtain rfl : j = nf := by omega
              have HIN := Lib.hid (HHA.out HZ.out)
              by_cases h31 : cc = 31
              · have h31b : (cc != 31) = false := by simp [h31]
                clear h31
                go_wp2
                go_roundw
                case rel => exact ⟨y + 1, by omega, by go_num, (Bel.of HR5.out).trans HRR.out⟩
                case measure => simp [intOf]; omega
              · have h31b : (cc != 31) = true := by simpa using h31
                clear h31
                go_wp2_with fail
                refine (hasint_any A4 n4 c4 _ (y : Int) _ (HS4.out.keep ((Bel.of HR5.out).trans HRR.out)) (by have := HMI.out; unfold maxLen at this; omega)).mono ?_
                rintro _ _ ⟨rfl, rfl⟩
                rw [HIN.out]
                go_wp2
                go_roundw
                case rel => exact ⟨y + 1, by omega, by go_num, (Bel.of HR5.out).trans HRR.out⟩
                case measure => simp [intOf]; omega
      · obtain rfl : y = 8 := by omega
        go_wp2
        go_ret
        exact ⟨rfl, HW4.out.trans HR.out⟩

set_option maxRecDepth 100000 in
theorem lifted (os : Os) (started : os.Started) (H : Type) (enc : TypeId × Value → H) :
    ReturnsInHanded {} Try.checked os 6 .any (Rows.guardSafeSpec.pre6 enc Try.prog Try.f6 Rows.guardSafeRow.domain false) (Rows.guardSafeSpec.post enc Try.prog Try.f6 false true false false) := by
  refine returnsInHanded_of_change_sized (C := Try.checked) own started (by kernel_rfl) Try.func6
    (ChangeSpec.witness6 (enc := enc) (C := Try.checked) false ⟨#[], #[.slice none 0 0], []⟩ 8 (by kernel_rfl) (by kernel_rfl) (by kernel_rfl) (by kernel_rfl)) ?_
  intro W base args ds gs before hval0 hW hcnd hsz0 _
  have hsz : (DataW.weightsEach Try.prog (Try.f6.params.toList ++ Rows.guardSafeSpec.plain.varTypes Try.prog) (ds ++ gs)).all (· ≤ reachBytes) = true := hsz0
  clear hsz0
  have hval : ∀ (j : Nat) t v, Try.f6.params[j]? = some t → args[j]? = some v → Value.okWide Try.prog W .any base t v := hval0
  have hW' := hW
  obtain ⟨p, q, hA0, hV, rfl, hfz, hnd⟩ := hW
  have hA : DataW.TrodAll enc Try.prog W 0 (fun _ => true) true Try.f6.params.toList args.toList ds p := hA0
  rw [Try.params6] at hA hval hsz
  obtain ⟨v0, vs0, d0, ds0, p0, q0, hargs, rfl, rfl, h0, r0⟩ := trodAll_cons hA
  obtain ⟨rfl, rfl, rfl⟩ := trodAll_nil r0
  obtain rfl : args = #[v0] := by cases args; simp_all
  obtain ⟨rfl, rfl⟩ := trodVars_none hV
  have t0 := h0
  have lt0 : ∀ x ∈ p0, x.block < W.heap.size := by obtain ⟨m, hm⟩ := t0; exact DataW.trod_lt m _ _ _ hm
  obtain ⟨A0, n0, c0, l0, rfl, s0, m0, x0, g0, z0⟩ := open_evs Try.underlying22 Try.underlying50 ⟨rfl, rfl, rfl⟩ (by kernel_rfl) (by kernel_rfl) Try.underlying3 (hval 0 22 v0 rfl rfl) h0
  have y0 := reach_sl hsz (j := 0) rfl rfl Try.underlying22 (b := 24) (by kernel_rfl) z0
  clear hA0 hval0
  refine (walk W A0 n0 c0 l0 s0 m0 x0 g0).mono fun e W' ⟨he, bel⟩ => ?_
  subst he
  exact ⟨_, rfl, _, _, _, [], _, [], hW', trodAll_mk1 (shut_bool Try.underlying4 _), (trodAll_cons_mk (Below.trod laidOut (by kernel_rfl) (of_decide_eq_true (by kernel_rfl)) t0 bel lt0) trodAll_mk0), rfl, bel.frame _, fun h => by cases h⟩

theorem over : Rows.guardSafeRow.holds Try.pinned (OpenSpec.ofChange Rows.guardSafeSpec) :=
  OpenClaim.holds_of_wide 6 Try.f6 rfl rfl rfl rfl rfl rfl rfl ⟨rfl, rfl, rfl, rfl, rfl⟩ rfl rfl rfl rfl rfl (by kernel_rfl) Try.func6 (by kernel_rfl)
    (of_decide_eq_true (by kernel_rfl)) (by unfold Func.isWrapper; first | (rw [if_pos (by decide +kernel)]; kernel_rfl) | (rw [if_neg (by decide +kernel)]; exact ⟨rfl, rfl⟩))
    (fun os started H enc _ => lifted os started H enc)

theorem proved : Rows.GuardSafeSaid := over
#print axioms proved
end Go.Proofs.Ytlifmedkadjdcaa.LGuardSafe
