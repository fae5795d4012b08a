/- 'deadheatkeep.GuardStates' returns true for every input and leaves its arguments as they are. No condition. -/
import Derived.Test.YtlifmedkadjdcaaOpen
import Derived.Test.YtlifmedkadjdcaaKeepGu
import Derived.Test.YtlifmedkadjdcaaRefTr
set_option linter.all false
set_option maxRecDepth 100000
namespace Go.Proofs.Ytlifmedkadjdcaa.LGuardStates
open Go Go.ChangeShapes Go.WideShapes Go.ChangeAt Go.RowKit

theorem tl_yes {l : List Ev} {x k : Nat} (ha : acB l k = true) (ho : oZ l k = x) (f : Int) (m : Bool) (hf : f = if (tlTo l x k).first < 0 then (tZ l k : Int) else (tlTo l x k).first) (hm : m = ((tlTo l x k).many || decide ((tZ l k : Int) ≠ f))) :
    tlTo l x (k + 1) = ⟨f, m, (tlTo l x k).wrote || (m && decide (kZ l k = 2))⟩ := by
  rw [tlTo, if_pos ⟨ha, ho⟩]
  subst hm hf
  rfl
theorem tl_no {l : List Ev} {x k : Nat} (h : ¬ (acB l k = true ∧ oZ l k = x)) : tlTo l x (k + 1) = tlTo l x k := by rw [tlTo, if_neg h]
set_option maxHeartbeats 8000000 in
theorem walk (W : World) (A : Option Addr) (n c : Nat) (l : List Ev) (s : Sl W A n l) (m : n ≤ c) (x : c ≤ maxLen) (g : ∀ e ∈ l, EvOk e) :
    Calls Try.prog 8 #[.slice A n c] W fun e w' => e = .returned (.bool true) ∧ Below W.heap.size W w' := by
  unfold maxLen at x
  have hw0 : Bel W W := Bel.refl _
  have HL := Lib.hid s
  clear s g
  cases h1 : (may l != 0)
  · have HM := Lib.hid (show may l = 0 by simpa using h1)
    have HG := Lib.hid (show gfin l = gG (gdT l l.length) by unfold gfin; rw [if_pos HM.out])
    have hn80 : n ≤ 80 := by rw [← HL.out.1]; exact ((may_iff l).1 HM.out).1
    go_enter Try.func8, Try.ntmps8
    go_wp2_with fail
    refine (guarded_any _).mono ?_
    rintro e1 w1 ⟨rfl, hb1⟩
    have hw1 := hw0.call hb1
    clear hb1
    go_wp2_with fail
    refine (guards_any A n c l _ (HL.out.bel hw1) m).mono ?_
    rintro e2 w2 ⟨rfl, hb2⟩
    have hw2 := hw1.call hb2
    clear hb2
    rw [HG.out]
    go_wp2_with (refine gwld_store TGs _ _ rfl rfl (gG (gdT l l.length)) rfl rfl rfl ?_)
    have HB1 := Lib.hid (gwld_box w2 (gG (gdT l l.length)))
    have HW2 := Lib.hid (hw2.trans (gwld_bel w2 (gG (gdT l l.length))))
    generalize gwld w2 (gG (gdT l l.length)) = wa at *
    clear hw2 hw1 hw0
    go_loopw [24] (fun t wr => ∃ k : Nat, k ≤ 8 ∧ t = .int .i64 k ∧ Bel wa wr) (fun t _ => 8 - (intOf t).toNat)
    case atStart => exact ⟨0, by omega, rfl, Bel.refl _⟩
    case round =>
      obtain ⟨y, hy, rfl, hr⟩ := hrel
      have HR := Lib.hid hr
      clear hr
      by_cases hlt : y < 8
      · have hlt' : (y : Int) < 8 := by omega
        generalize hws : wr = wS at *
        clear hws
        go_wp2
        go_loopw [6, 7, 8, 29] (fun a b d i wr => ∃ k : Nat, k ≤ n ∧ i = .int .i64 k ∧ a = .int .i64 (tlTo l y k).first ∧ b = .bool (tlTo l y k).many ∧ d = .bool (tlTo l y k).wrote ∧ Bel wS wr) (fun _ _ _ i _ => n - (intOf i).toNat)
        case atStart => exact ⟨0, by omega, rfl, rfl, rfl, rfl, Bel.refl _⟩
        case round =>
          obtain ⟨k, hk, rfl, rfl, rfl, rfl, hr⟩ := hrel
          have HRR := Lib.hid hr
          have HT := Lib.hid (gd_tl l y k)
          clear hr
          by_cases hkn : k < n
          · have hkn' : (k : Int) < n := by omega
            have hkl : k < l.length := by rw [HL.out.1]; exact hkn
            obtain ⟨bb, off, e, hAe, hbb, he, hrg⟩ := (((HL.out.bel HW2.out).bel HR.out).bel HRR.out).at_ hkn
            subst hAe
            obtain rfl : e = eZ l k := (eZ_at he).symm
            have hR := Lib.hid hrg
            have HX := Lib.hid (ewld_box wr (eZ l k) 50)
            have HRX := Lib.hid (HRR.out.trans (Bel.of (ewld_below wr (eZ l k) 50)))
            have hev := eZ_ok HM.out hkl
            have ht := isEv_t hev
            have ho := isEv_o hev
            have hk80 : k < 80 := by omega
            have HOI := Lib.hid (show (eZ l k).o = (oZ l k : Nat) by unfold oZ; omega)
            have HTI := Lib.hid (show (eZ l k).t = (tZ l k : Nat) by unfold tZ; omega)
            have d0 : (ewld wr (eZ l k) 50).cell? ⟨wr.heap.size, 0, none⟩ = some (.int .i64 (kZ l k)) := HX.out.cell 0 rfl
            have d1 : (ewld wr (eZ l k) 50).cell? ⟨wr.heap.size, 1, none⟩ = some (.int .i64 ((tZ l k : Nat) : Int)) := by rw [← HTI.out]; exact HX.out.cell 1 rfl
            have d2 : (ewld wr (eZ l k) 50).cell? ⟨wr.heap.size, 2, none⟩ = some (.int .i64 ((oZ l k : Nat) : Int)) := by rw [← HOI.out]; exact HX.out.cell 2 rfl
            have HK12 := Lib.hid (show ¬ 2 < kZ l k → acB l k = true from fun h => by
              have h1 := ho.1
              have h2 := ho.2
              unfold nobj at h2
              unfold acB
              rw [decide_eq_true]
              show kZ l k = 1 ∨ kZ l k = 2
              have e1 : kZ l k = (eZ l k).k := rfl
              rw [e1] at h ⊢
              repeat' split at h2
              all_goals omega)
            clear he hrg hbb hev ht ho
            by_cases h2 : 2 < kZ l k
            · have HZ := Lib.hid (show tlTo l y (k + 1) = tlTo l y k from tl_no fun h => by
                have := acB_k h.1
                have e1 : kZ l k = (eZ l k).k := rfl
                omega)
              clear d1 d2
              go_wp2_with (first | (refine load_ev T36 _ rfl rfl rfl hR.out ?_) | (refine ewld_store T36 _ _ rfl rfl _ rfl rfl rfl ?_))
              go_roundw
              case rel => exact ⟨k + 1, by omega, by go_num, by rw [HZ.out], by rw [HZ.out], by rw [HZ.out], HRX.out⟩
              case measure => simp [intOf]; omega
            · have HAC := Lib.hid (HK12.out h2)
              have hk2 : kZ l k ≤ 2 := by omega
              have hk2b : decide (2 < kZ l k) = false := decide_eq_false h2
              clear h2
              by_cases h3 : oZ l k = y
              · have b3 : (((oZ l k : Nat) : Int) != (y : Int)) = false := by simp [h3]
                have HO := Lib.hid h3
                clear h3
                generalize hp : tlTo l y k = p at *
                have HP := Lib.hid hp
                clear hp
                obtain ⟨f, mm, ww⟩ := p
                generalize htz : tZ l k = t at *
                have HTZ := Lib.hid htz
                clear htz
                dsimp only
                cases ww
                · cases mm
                  · by_cases hf : f < 0
                    · skip
                      have HZ := Lib.hid (show tlTo l y (k + 1) = ⟨(t : Int), false, false⟩ from by
                        rw [tl_yes HAC.out HO.out ((t : Int)) false (by rw [HP.out, HTZ.out]; simp [hf]) (by rw [HP.out, HTZ.out]; simp), HP.out]
                        simp)
                      go_wp2_with (first | (refine load_ev T36 _ rfl rfl rfl hR.out ?_) | (refine ewld_store T36 _ _ rfl rfl _ rfl rfl rfl ?_))
                      go_roundw
                      case rel => exact ⟨k + 1, by omega, by go_num, by rw [HZ.out], by rw [HZ.out], by rw [HZ.out], HRX.out⟩
                      case measure => simp [intOf]; omega
                    · by_cases hq : (t : Int) = f
                      · have bq : ((t : Int) != f) = false := by simp [hq]
                        have HZ := Lib.hid (show tlTo l y (k + 1) = ⟨f, false, false⟩ from by
                          rw [tl_yes HAC.out HO.out (f) false (by rw [HP.out, HTZ.out]; simp [hf]) (by rw [HP.out, HTZ.out]; simp [hq]), HP.out]
                          simp)
                        clear hq
                        go_wp2_with (first | (refine load_ev T36 _ rfl rfl rfl hR.out ?_) | (refine ewld_store T36 _ _ rfl rfl _ rfl rfl rfl ?_))
                        go_roundw
                        case rel => exact ⟨k + 1, by omega, by go_num, by rw [HZ.out], by rw [HZ.out], by rw [HZ.out], HRX.out⟩
                        case measure => simp [intOf]; omega
                      · have bq : ((t : Int) != f) = true := by simpa using hq
                        have HZ := Lib.hid (show tlTo l y (k + 1) = ⟨f, true, (kZ l k == 2)⟩ from by
                          rw [tl_yes HAC.out HO.out (f) true (by rw [HP.out, HTZ.out]; simp [hf]) (by rw [HP.out, HTZ.out]; simp [hq]), HP.out]
                          simp; rfl)
                        clear hq
                        go_wp2_with (first | (refine load_ev T36 _ rfl rfl rfl hR.out ?_) | (refine ewld_store T36 _ _ rfl rfl _ rfl rfl rfl ?_))
                        go_roundw
                        case rel => exact ⟨k + 1, by omega, by go_num, by rw [HZ.out], by rw [HZ.out], by rw [HZ.out], HRX.out⟩
                        case measure => simp [intOf]; omega
                  · have hf : ¬ f < 0 := by have := HT.out.m1 rfl; dsimp only at this; omega
                    have HZ := Lib.hid (show tlTo l y (k + 1) = ⟨f, true, (kZ l k == 2)⟩ from by
                      rw [tl_yes HAC.out HO.out (f) true (by rw [HP.out, HTZ.out]; simp [hf]) (by rw [HP.out, HTZ.out]; simp), HP.out]
                      simp; rfl)
                    go_wp2_with (first | (refine load_ev T36 _ rfl rfl rfl hR.out ?_) | (refine ewld_store T36 _ _ rfl rfl _ rfl rfl rfl ?_))
                    go_roundw
                    case rel => exact ⟨k + 1, by omega, by go_num, by rw [HZ.out], by rw [HZ.out], by rw [HZ.out], HRX.out⟩
                    case measure => simp [intOf]; omega
                · have hm9 : mm = true := HT.out.m2 rfl
                  subst hm9
                  have hf : ¬ f < 0 := by have := HT.out.m1 rfl; dsimp only at this; omega
                  have HZ := Lib.hid (show tlTo l y (k + 1) = ⟨f, true, true⟩ from by
                    rw [tl_yes HAC.out HO.out (f) true (by rw [HP.out, HTZ.out]; simp [hf]) (by rw [HP.out, HTZ.out]; simp), HP.out]
                    simp)
                  go_wp2_with (first | (refine load_ev T36 _ rfl rfl rfl hR.out ?_) | (refine ewld_store T36 _ _ rfl rfl _ rfl rfl rfl ?_))
                  go_roundw
                  case rel => exact ⟨k + 1, by omega, by go_num, by rw [HZ.out], by rw [HZ.out], by rw [HZ.out], HRX.out⟩
                  case measure => simp [intOf]; omega
              · have b3 : (((oZ l k : Nat) : Int) != (y : Int)) = true := by simp; omega
                have HZ := Lib.hid (show tlTo l y (k + 1) = tlTo l y k from tl_no fun h => h3 h.2)
                clear h3 d1
                go_wp2_with (first | (refine load_ev T36 _ rfl rfl rfl hR.out ?_) | (refine ewld_store T36 _ _ rfl rfl _ rfl rfl rfl ?_))
                go_roundw
                case rel => exact ⟨k + 1, by omega, by go_num, by rw [HZ.out], by rw [HZ.out], by rw [HZ.out], HRX.out⟩
                case measure => simp [intOf]; omega
          · obtain rfl : k = n := by omega
            have HLN := Lib.hid (show l.length = k from HL.out.1)
            have hc := (HR.out.trans HRR.out)
            have z0 := (hc.box HB1.out).cell (y * 3) (ns_get _ (by omega))
            have z1 := (hc.box HB1.out).cell (y * 3 + 1) (ns_get _ (by omega))
            rw [gG_0] at z0
            rw [gG_1] at z1
            rw [show gdT l l.length y = gdTo l y k from by rw [HLN.out]; rfl] at z0 z1
            have HC := Lib.hid hc
            clear hc
            generalize hp : tlTo l y k = p at *
            clear hp
            generalize gdTo l y k = g at *
            obtain ⟨f, mm, ww⟩ := p
            obtain ⟨st, th, lk⟩ := g
            have hst := HT.out.st
            have hth := HT.out.th
            have hm1 := HT.out.m1
            have hm2 := HT.out.m2
            unfold tlSt at hst
            dsimp only at hst hth hm1 hm2 z0 z1 ⊢
            cases ww
            · cases mm
              · by_cases hf : f < 0
                · have hf9 : ¬ 0 ≤ f := by omega
                  obtain rfl : st = 0 := by simpa [hf9] using hst
                  have hth2 : (th : Int) = 0 := by rw [if_pos hf] at hth; exact hth
                  have hmx : max f 0 = 0 := by omega
                  clear hst hth hm1 hm2
                  go_wp2
                  go_roundw
                  case rel => exact ⟨y + 1, by omega, by go_num, HC.out⟩
                  case measure => simp [intOf]; omega
                · have hf9 : 0 ≤ f := by omega
                  obtain rfl : st = 1 := by simpa [hf9] using hst
                  have hth2 : (th : Int) = f := by rw [if_neg hf] at hth; exact hth
                  have hmx : max f 0 = f := by omega
                  clear hst hth hm1 hm2
                  go_wp2
                  go_roundw
                  case rel => exact ⟨y + 1, by omega, by go_num, HC.out⟩
                  case measure => simp [intOf]; omega
              · have hf9 : 0 ≤ f := hm1 rfl
                have hf : ¬ f < 0 := by omega
                obtain rfl : st = 2 := by simpa using hst
                have hth2 : (th : Int) = f := by rw [if_neg hf] at hth; exact hth
                have hmx : max f 0 = f := by omega
                clear hst hth hm1 hm2
                go_wp2
                go_roundw
                case rel => exact ⟨y + 1, by omega, by go_num, HC.out⟩
                case measure => simp [intOf]; omega
            · have hm9 : mm = true := hm2 rfl
              subst hm9
              have hf9 : 0 ≤ f := hm1 rfl
              have hf : ¬ f < 0 := by omega
              obtain rfl : st = 3 := by simpa using hst
              have hth2 : (th : Int) = f := by rw [if_neg hf] at hth; exact hth
              have hmx : max f 0 = f := by omega
              clear hst hth hm1 hm2
              go_wp2
              go_roundw
              case rel => exact ⟨y + 1, by omega, by go_num, HC.out⟩
              case measure => simp [intOf]; omega
      · obtain rfl : y = 8 := by omega
        go_wp2
        go_ret
        exact ⟨rfl, HW2.out.trans HR.out⟩
  · have HM := Lib.hid (show may l ≠ 0 by simpa using h1)
    have h2 : (may l == 0) = false := by simp [HM.out]
    have HG := Lib.hid (show gfin l = fun _ => 0 by unfold gfin; rw [if_neg HM.out])
    go_enter Try.func8, Try.ntmps8
    go_wp2_with fail
    refine (guarded_any _).mono ?_
    rintro e1 w1 ⟨rfl, hb1⟩
    have hw1 := hw0.call hb1
    clear hb1
    go_wp2_with fail
    refine (guards_any A n c l _ (HL.out.bel hw1) m).mono ?_
    rintro e2 w2 ⟨rfl, hb2⟩
    have hw2 := hw1.call hb2
    clear hb2
    rw [HG.out]
    go_wp2_with (refine gwld_store TGs _ _ rfl rfl (fun _ => 0) rfl rfl rfl ?_)
    replace hw2 := hw2.trans (gwld_bel w2 (fun _ => 0))
    generalize gwld w2 (fun _ => 0) = wa at *
    refine (may_any A n c l _ (HL.out.bel hw2)).mono ?_
    rintro e3 w3 ⟨rfl, hb3⟩
    have hw3 := hw2.call hb3
    clear hb3
    go_wp2
    go_ret
    exact ⟨rfl, hw3⟩

set_option maxRecDepth 100000 in
theorem lifted (os : Os) (started : os.Started) (H : Type) (enc : TypeId × Value → H) :
    ReturnsInHanded {} Try.checked os 8 .any (Rows.guardStatesSpec.pre6 enc Try.prog Try.f8 Rows.guardStatesRow.domain false) (Rows.guardStatesSpec.post enc Try.prog Try.f8 false true false false) := by
  refine returnsInHanded_of_change_sized (C := Try.checked) own started (by kernel_rfl) Try.func8
    (ChangeSpec.witness6 (enc := enc) (C := Try.checked) false ⟨#[], #[.slice none 0 0], []⟩ 8 (by kernel_rfl) (by kernel_rfl) (by kernel_rfl) (by kernel_rfl)) ?_
  intro W base args ds gs before hval0 hW hcnd hsz0 _
  have hsz : (DataW.weightsEach Try.prog (Try.f8.params.toList ++ Rows.guardStatesSpec.plain.varTypes Try.prog) (ds ++ gs)).all (· ≤ reachBytes) = true := hsz0
  clear hsz0
  have hval : ∀ (j : Nat) t v, Try.f8.params[j]? = some t → args[j]? = some v → Value.okWide Try.prog W .any base t v := hval0
  have hW' := hW
  obtain ⟨p, q, hA0, hV, rfl, hfz, hnd⟩ := hW
  have hA : DataW.TrodAll enc Try.prog W 0 (fun _ => true) true Try.f8.params.toList args.toList ds p := hA0
  rw [Try.params8] at hA hval hsz
  obtain ⟨v0, vs0, d0, ds0, p0, q0, hargs, rfl, rfl, h0, r0⟩ := trodAll_cons hA
  obtain ⟨rfl, rfl, rfl⟩ := trodAll_nil r0
  obtain rfl : args = #[v0] := by cases args; simp_all
  obtain ⟨rfl, rfl⟩ := trodVars_none hV
  have t0 := h0
  have lt0 : ∀ x ∈ p0, x.block < W.heap.size := by obtain ⟨m, hm⟩ := t0; exact DataW.trod_lt m _ _ _ hm
  obtain ⟨A0, n0, c0, l0, rfl, s0, m0, x0, g0, z0⟩ := open_evs Try.underlying22 Try.underlying50 ⟨rfl, rfl, rfl⟩ (by kernel_rfl) (by kernel_rfl) Try.underlying3 (hval 0 22 v0 rfl rfl) h0
  have y0 := reach_sl hsz (j := 0) rfl rfl Try.underlying22 (b := 24) (by kernel_rfl) z0
  clear hA0 hval0
  refine (walk W A0 n0 c0 l0 s0 m0 x0 g0).mono fun e W' ⟨he, bel⟩ => ?_
  subst he
  exact ⟨_, rfl, _, _, _, [], _, [], hW', trodAll_mk1 (shut_bool Try.underlying4 _), (trodAll_cons_mk (Below.trod laidOut (by kernel_rfl) (of_decide_eq_true (by kernel_rfl)) t0 bel lt0) trodAll_mk0), rfl, bel.frame _, fun h => by cases h⟩

theorem over : Rows.guardStatesRow.holds Try.pinned (OpenSpec.ofChange Rows.guardStatesSpec) :=
  OpenClaim.holds_of_wide 8 Try.f8 rfl rfl rfl rfl rfl rfl rfl ⟨rfl, rfl, rfl, rfl, rfl⟩ rfl rfl rfl rfl rfl (by kernel_rfl) Try.func8 (by kernel_rfl)
    (of_decide_eq_true (by kernel_rfl)) (by unfold Func.isWrapper; first | (rw [if_pos (by decide +kernel)]; kernel_rfl) | (rw [if_neg (by decide +kernel)]; exact ⟨rfl, rfl⟩))
    (fun os started H enc _ => lifted os started H enc)

theorem proved : Rows.GuardStatesSaid := over
#print axioms proved
end Go.Proofs.Ytlifmedkadjdcaa.LGuardStates
