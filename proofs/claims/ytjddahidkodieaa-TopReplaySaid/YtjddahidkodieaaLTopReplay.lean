/- 'deadheattop.TopReplay' returns true for every input and leaves its arguments as they are. No condition. -/
import Derived.Test.YtjddahidkodieaaKeepPg
import Derived.Test.YtjddahidkodieaaOpenInts
import Derived.Test.YtjddahidkodieaaKeepTw
import Derived.Test.YtjddahidkodieaaEqEv
import Derived.Test.YtjddahidkodieaaRw
import Derived.Test.YtjddahidkodieaaBl
import Derived.Test.YtjddahidkodieaaFo
import Derived.Test.YtjddahidkodieaaKeepTp
import Derived.Deep.DeepCutAuto
import Derived.Deep.CutBlock
set_option linter.all false
set_option maxRecDepth 100000
namespace Go.Proofs.Ytjddahidkodieaa.LTopReplay
open Go Go.ChangeShapes Go.WideShapes Go.ChangeAt Go.RowKit

theorem mtch_no {x o : Ev} (h : mtch x o = false) : kOf o.k ≠ x.k ∨ o.t ≠ x.o := by
  unfold mtch at h
  rw [Bool.and_eq_false_iff] at h
  exact h.imp of_decide_eq_false of_decide_eq_false
theorem mtch_yes {x o : Ev} (h : mtch x o = true) : kOf o.k = x.k ∧ o.t = x.o := by
  unfold mtch at h
  simpa using h
theorem take_drop_snoc {l : List Ev} {i j : Nat} {o : Ev} (h : l[i + j]? = some o) : (l.drop i).take (j + 1) = (l.drop i).take j ++ [o] := take_snoc (by rw [List.getElem?_drop]; exact h)
set_option maxHeartbeats 32000000 in
theorem walkH (HR : RunC) (HW : ∀ w, Calls Try.prog 10 #[] w fun e w' => e = .returned (.bool true) ∧ Below w.heap.size w w') (W : World) (A : Option Addr) (n c : Nat) (l : List (List Ev)) (s : Prg W A n l) (m : n ≤ c) (x : c ≤ maxLen) (_g : ∀ ops ∈ l, ∀ e ∈ ops, EvOk e)
    (B : Option Addr) (k d : Nat) (q : List Int) (s1 : SI W B k q) (m1 : k ≤ d) (x1 : d ≤ maxLen) (_g1 : ∀ x ∈ q, In64 x) :
    Calls Try.prog 7 #[.slice A n c, .slice B k d] W fun e w' => e = .returned (.bool true) ∧ Below W.heap.size W w' := by
  have HL := Lib.hid s
  have HS := Lib.hid s1
  have HM := Lib.hid (And.intro (And.intro m x) (And.intro m1 x1))
  have HRN := Lib.hid HW
  clear HW
  unfold RunC at HR
  have H1 := Lib.hid HR
  clear s m x HR s1 m1 x1
  go_enter Try.func7, Try.ntmps7
  go_wp2_with fail
  refine (HRN.out W).mono ?_
  rintro e0 w0 ⟨rfl, hb0⟩
  have HW0 := Lib.hid (Bel.of hb0)
  clear hb0
  go_wp2_with fail
  refine (H1.out A n c l B k d q _ (HL.out.bel HW0.out) HM.out.1.1 HM.out.1.2 (HS.out.keep HW0.out) HM.out.2.1 HM.out.2.2).mono ?_
  rintro e1 w1 ⟨v1, y1, l1, c1, rfl, hB1, ho1, hb1⟩
  have HV1 := Lib.hid (EnV.run hB1)
  have HB1 := Lib.hid hB1
  obtain ⟨A1, e1', rfl, hs1, hn1, hm1⟩ := Sl.own ho1
  have HX1 := Lib.hid (enw_box w1 y1)
  have HE1 := Lib.hid ((HW0.out.call hb1).trans (enw_bel w1 y1))
  have HT1 := Lib.hid (And.intro (hs1.bel (enw_bel w1 y1).out) (And.intro hn1 hm1))
  clear hb1 ho1 hs1 hn1 hm1 hB1
  go_wp2_with (refine enw_store HV1.out.ty _ _ rfl rfl HV1.out.size HV1.out.one rfl rfl rfl ?_)
  refine (H1.out A n c l B k d q _ (HL.out.bel HE1.out) HM.out.1.1 HM.out.1.2 (HS.out.keep HE1.out) HM.out.2.1 HM.out.2.2).mono ?_
  rintro e2 w2 ⟨v2, y2, l2, c2, rfl, hB2, ho2, hb2⟩
  obtain ⟨rfl, rfl, rfl⟩ := runB_uniq HB1.out hB2
  obtain ⟨A2, e2', rfl, hs2, hn2, hm2⟩ := Sl.own ho2
  have HX2 := Lib.hid (enw_box w2 y1)
  have HE2 := Lib.hid ((HE1.out.call hb2).trans (enw_bel w2 y1))
  have HU2 := Lib.hid ((Bel.of hb2).trans (enw_bel w2 y1))
  have HT2 := Lib.hid (And.intro (hs2.bel (enw_bel w2 y1).out) (And.intro hn2 hm2))
  clear hb2 ho2 hs2 hn2 hm2 hB2
  have HX1' := Lib.hid (HU2.out.box HX1.out)
  have HT1' := Lib.hid (HT1.out.1.bel HU2.out.out)
  have HNE := Lib.hid (fun w => neq_of_eql (HV1.out.eq w))
  have hrefl : (c1 != c1) = false := by simp
  go_wp2_with (first | (refine enw_store HV1.out.ty _ _ rfl rfl HV1.out.size HV1.out.one rfl rfl rfl ?_) | (refine loadG 49 _ rfl rfl rfl HX1'.out HV1.out.ty ?_) | (refine loadG 49 _ rfl rfl rfl HX2.out HV1.out.ty ?_) | (refine neqG_step 49 _ _ _ rfl rfl rfl rfl grd_end (HNE.out _) ?_))
  refine (eqev_any A1 A2 _ e1' _ e2' _ _ _ HT1'.out HT2.out.1 HT1.out.2.1 HT2.out.2.1 HT1.out.2.2 HT2.out.2.2).mono ?_
  rintro e3 w3 ⟨rfl, hb3⟩
  rw [decide_eq_true rfl]
  have HE3 := Lib.hid (HE2.out.call hb3)
  have HX3 := Lib.hid ((Bel.of hb3).box HX1'.out)
  have HT3 := Lib.hid (HT1'.out.bel hb3)
  clear hb3 hrefl
  rcases runB_cases HB1.out with ⟨hc1, rfl, rfl⟩ | ⟨rfl, hok, h100, rfl, rfl⟩
  · have h9 : (c1 != 0) = true := by simpa using hc1
    clear hc1
    go_wp2
    go_ret
    exact ⟨rfl, HE3.out.out⟩
  · have HMT := Lib.hid (mat_run hok q)
    have HSM := Lib.hid (sim_run hok q)
    have HMAY := Lib.hid ((runP_ok hok q).may hok)
    have HLR := Lib.hid (limR_take hok (runP l q).L)
    have HOK := Lib.hid hok
    have HAP := Lib.hid (add_part hok)
    have h6 : n ≤ 6 := by rw [← HL.out.1]; exact hok.six
    have HLN := Lib.hid HL.out.1
    have HLB := Lib.hid (show (runP l q).L.length ≤ 80 from ((may_iff _).1 HMAY.out).1)
    have HEP := Lib.hid (show ∃ s : Ps, s = runP l q from ⟨_, rfl⟩)
    clear hok h100 HB1
    go_upto_region 9 with fail
    generalize hl1 : (runP l q).L = l1 at *
    obtain ⟨b1, b2, b3, b4, hbl, hsz⟩ := boxes4 w3 (iv 8 fun _ => 0) (iv 4 fun _ => 0) (iv 6 fun _ => 0) (iv 6 fun _ => 0) 45 46 47 47
    go_upto_region 12 with fail
    change Code.wp _ _ _ _ ((((w3.alloc (.cells (iv 8 fun _ => 0) 45)).alloc (.cells (iv 4 fun _ => 0) 46)).alloc (.cells (iv 6 fun _ => 0) 47)).alloc (.cells (iv 6 fun _ => 0) 47))
    generalize ((((w3.alloc (.cells (iv 8 fun _ => 0) 45)).alloc (.cells (iv 4 fun _ => 0) 46)).alloc (.cells (iv 6 fun _ => 0) 47)).alloc (.cells (iv 6 fun _ => 0) 47)) = w4 at *
    have HSZ := Lib.hid hsz
    clear hsz
    have hmm := @run_makeMap Try.prog
    obtain ⟨U0', U1, U2, U3, U4, U5, U6, U7⟩ := kup w4
    unfold KUp at U0' U1 U2 U3 U4 U5 U6 U7
    have U0 : (Instr.mapUpdate 67 (.map (some w4.heap.size)) (.int .i64 1) (.int .i64 1)).run Try.prog (w4.alloc (.map #[] 0)) = .ok () (w4.alloc (.map (kEt 1) 1)) := U0'
    clear U0'
    go_upto_region 13 with fail
    have HB5 := ((Bel.refl w4).alloc (.map (kEt 8) 8))
    have HN := Lib.hid (show ReN w3 w3.heap.size (w3.heap.size + 1) (w3.heap.size + 1 + 1) (w3.heap.size + 1 + 1 + 1) w4.heap.size from ⟨Nat.le_refl _, by omega, by omega, by omega, by rw [HSZ.out]; omega⟩)
    have H0 := Lib.hid (show ReW w3 w3.heap.size (w3.heap.size + 1) (w3.heap.size + 1 + 1) (w3.heap.size + 1 + 1 + 1) w4.heap.size (fun _ => 0) (fun _ => 0) (fun _ => 0) (fun _ => 0) (w4.alloc (.map (kEt 8) 8)) from
      ⟨HB5.box b1, HB5.box b2, HB5.box b3, HB5.box b4, heap_alloc_new w4 _, (Bel.of hbl).trans HB5⟩)
    clear U0 U1 U2 U3 U4 U5 U6 U7 hmm b1 b2 b3 b4 hbl HSZ HB5
    generalize w4.alloc (.map (kEt 8) 8) = w5 at *
    generalize w4.heap.size = MM at *
    generalize hT1 : w3.heap.size = T1 at *
    generalize T1 + 1 = T2 at *
    generalize T2 + 1 = T3 at *
    generalize T3 + 1 = T4 at *
    clear hT1
    have hln := HLB.out
    go_wp2
    go_loopw [57] (fun t wr => ∃ i : Nat, i ≤ l1.length ∧ t = .int .i64 i ∧ ReW w3 T1 T2 T3 T4 MM (fun j => (repL l (l1.take i)).mem (j : Nat)) (fun j => (repL l (l1.take i)).vol (j : Nat)) (repL l (l1.take i)).has (repL l (l1.take i)).a wr) (fun t _ => l1.length - (intOf t).toNat)
    case atStart => exact ⟨0, by omega, rfl, H0.out⟩
    case round =>
      obtain ⟨i, hi, rfl, hr⟩ := hrel
      by_cases hlt : i < l1.length
      · obtain ⟨bb, oo, e, rfl, hbb, he, hrg⟩ := (HT3.out.bel hr.bel.out).at_ hlt
        have hlt' : (i : Int) < l1.length := by omega
        have HLT := Lib.hid hlt
        have hid1 : (i : Int) ≤ e1' := by have := HT1.out.2.1; omega
        have hR := Lib.hid hrg
        obtain ⟨t, nn, o, hxt, htn, hoo, hmo, hsk, hno⟩ := mat_sk (HMT.out i e (by rw [hl1]; exact he))
        rw [hl1] at hoo hsk hno
        have HRS := Lib.hid (show repL l (l1.take (i + 1)) = repE l (repL l (l1.take i)) e by rw [take_snoc he, repL_snoc])
        have HOO := Lib.hid hoo
        have HMO := Lib.hid (mtch_yes hmo)
        have HNO := Lib.hid (fun j y hj hy => mtch_no (hno j y hj hy))
        have HXT := Lib.hid hxt
        have HSK := Lib.hid hsk
        have HEV := Lib.hid (wrong_isEv (wrong_at HMAY.out he))
        have HLI := Lib.hid (HLR.out i hi)
        rw [HLN.out] at htn
        have ht6 : t < 6 := by omega
        have ht6' : (t : Int) < 6 := by omega
        have htn' : ¬ (n : Int) ≤ t := by omega
        have htn2 : (t : Int) < n := by omega
        have htc : (t : Int) ≤ c := by have := HM.out.1.1; omega
        have HRW := Lib.hid (hr.grow (Bel.of (ewld_below wr e 54)))
        have HXE := Lib.hid (ewld_box wr e 54)
        have HXM := Lib.hid (show MM < wr.heap.size from (Array.getElem?_eq_some_iff.1 hr.mp).1)
        have HI80 := Lib.hid (show i ≤ 80 by omega)
        clear hrg he hbb hoo hmo hsk hno hr H0
        go_upto_region 16 with (first | (refine load_ev T36 _ rfl rfl rfl hR.out ?_) | (refine ewld_store T36 _ _ rfl rfl _ rfl rfl rfl ?_))
        generalize ewld wr e 54 = wE at *
        generalize wr.heap.size = X at *
        generalize hrr : repL l (l1.take i) = r at *
        clear hrr
        obtain ⟨b2, off2, B2, m2, d2, rfl, hb2, hc2', hsl2, hm2, hd2⟩ := (HL.out.bel HE3.out).at_ htn
        have hc2 := HRW.out.bel.cell hc2'
        have e1 := (HXE.out.cell 1 (v := .int .i64 e.t) rfl).trans (show _ = some (Value.int .i64 (t : Int)) by rw [hxt])
        have HC2 := Lib.hid hc2'
        have HSL := Lib.hid hsl2
        have HMD := Lib.hid (And.intro hm2 hd2)
        have h12 := HOK.out.len t
        have HLE := Lib.hid (show m2 ≤ 12 by rw [← hsl2.1]; exact h12)
        have HAN := Lib.hid (show r.a t + nn < m2 by rw [← hsl2.1]; exact (List.getElem?_eq_some_iff.1 HOO.out).1)
        clear hxt hsl2 hm2 hd2 h12 hc2'
        have hMW := HXM.out
        obtain ⟨j0, hj0, gz0, gz1, gz2⟩ := info_parts info_op
        go_wp2
        generalize hws : wr = wS at *
        clear hws
        go_loopw [19] (fun v wr => ∃ j : Nat, j ≤ nn + 1 ∧ v = .bool (decide (j = nn + 1)) ∧ ReW w3 T1 T2 T3 T4 MM (fun j => r.mem (j : Nat)) (fun j => r.vol (j : Nat)) (hasJ r (opsP l t) t j) (atJ r t j) wr ∧ Box wr X (evv e) 54) (fun _ wr => r.a t + nn + 1 - (intOf ((wr.cell? ⟨T4, t, none⟩).getD undef)).toNat)
        case atStart => exact ⟨0, Nat.zero_le _, by simp, HRW.out.to (fun _ _ => rfl) (fun _ _ => rfl) (fun z hz => hasJ_zero r _ t z hz) (fun z hz => atJ_zero r t z hz), HXE.out⟩
        case round =>
          obtain ⟨j, hj, rfl, hrw, hbe⟩ := hrel
          have HRWJ := Lib.hid hrw
          have HBE := Lib.hid hbe
          have HJ := Lib.hid hj
          have hct := (hrw.a.cell t (iv_get _ ht6)).trans (show _ = some (Value.int .i64 ((r.a t + j : Nat) : Int)) by show some (Value.int .i64 ((atJ r t j t : Nat) : Int)) = _; rw [atJ_at])
          have hc2 := hrw.bel.cell HC2.out
          have F := fun (w9 : World) (h9 : Bel wr w9) => And.intro (h9.cell hct) (h9.cell hc2)
          have HF := Lib.hid F
          clear F hct hc2 hrw hbe hj
          by_cases hjn : j = nn + 1
          · have HJN := Lib.hid hjn
            rw [decide_eq_true hjn]
            clear hjn
            generalize hp : r.a t + j = p at *
            have HP := Lib.hid hp
            clear hp
            by_cases hpm : p < m2
            · have hpm' : (p : Int) < m2 := by omega
              go_wp2_with fail
              (refine region_bel (by kernel_rfl) (by kernel_rfl) ?_; (repeat (first | ((with_reducible refine BigFrame.wpQuiet_skip ?_ ?_); exact rfl; simp only [Act.put, Act.eval, List.setIfInBounds_toArray, List.set_cons_zero, List.set_cons_succ, Array.getD_eq_getD_getElem?, List.getElem?_toArray, List.getElem?_cons_zero, List.getElem?_cons_succ, Option.getD_some]) | (refine q_move _ rfl rfl ?_; simp only [Act.put, Act.eval, List.setIfInBounds_toArray, List.set_cons_zero, List.set_cons_succ, Array.getD_eq_getD_getElem?, List.getElem?_toArray, List.getElem?_cons_zero, List.getElem?_cons_succ, Option.getD_some]) | (refine q_assign _ rfl rfl ?_; simp only [Act.put, Act.eval, List.setIfInBounds_toArray, List.set_cons_zero, List.set_cons_succ, Array.getD_eq_getD_getElem?, List.getElem?_toArray, List.getElem?_cons_zero, List.getElem?_cons_succ, Option.getD_some]) | (refine q_any rfl ?_; apply Exists.intro; refine ⟨fun w hw => ?_, ?_⟩; (have fct0 := HF.out w hw; go_simp; first | exact ⟨rfl, rfl⟩ | rfl); simp only [Act.put, Act.eval, List.setIfInBounds_toArray, List.set_cons_zero, List.set_cons_succ, Array.getD_eq_getD_getElem?, List.getElem?_toArray, List.getElem?_cons_zero, List.getElem?_cons_succ, Option.getD_some]))); refine wpQuiet_nil ?_; intro w2 hw2)
              have HR8 := Lib.hid (HRWJ.out.grow hw2)
              have HE8 := Lib.hid (hw2.box HBE.out)
              have HK18 := Lib.hid (ev_k18 HEV.out)
              have HMD2 := Lib.hid (show midR l r e = hasJ r (opsP l t) t j t by rw [HJN.out]; exact mid_has HXT.out HSK.out HOO.out (fun h => by have h1 := HMO.out.1; have h2 := HK18.out.1; rw [h] at h1; have : kOf 3 = 0 := rfl; omega))
              have HRA := Lib.hid (show ∀ z, z < 6 → (repE l r e).a z = atJ r t j z from fun z _ => by rw [repE_a' l r e HXT.out, HSK.out, HJN.out]; rfl)
              have HRH := Lib.hid (repE_has' l r e HXT.out)
              obtain ⟨ov, hov⟩ : ∃ ov : Nat, e.o = ov := ⟨e.o.toNat, by have := isEv_o HEV.out; omega⟩
              have HOV := Lib.hid hov
              have x0 := HE8.out.cell 0 (v := .int .i64 e.k) rfl
              have x2 := (HE8.out.cell 2 (v := .int .i64 e.o) rfl).trans (show _ = some (Value.int .i64 (ov : Int)) by rw [hov])
              have HOB := Lib.hid (isEv_o HEV.out)
              have zT3 := HR8.out.h.frozen t
              clear hw2 hov
              rcases (show e.k = 1 ∨ e.k = 2 ∨ e.k = 7 ∨ e.k = 8 ∨ (e.k ≠ 1 ∧ e.k ≠ 2 ∧ e.k ≠ 7 ∧ e.k ≠ 8) by omega) with hj | hj | hj | hj | hj
              · have HK := Lib.hid hj
                have t1 : (e.k == 1) = true := by rw [hj]; rfl
                have hob : ov < 8 := by have h1 := HOB.out; have h2 := (nobj_at (k := e.k)).1 (by omega); have h3 := HOV.out; omega
                have hob' : (ov : Int) < 8 := by omega
                have xm := HR8.out.m.cell ov (iv_get _ hob)
                have zm := HR8.out.m.frozen ov
                have xh := HR8.out.h.cell t (iv_get _ ht6)
                clear hj
                go_wp2
                go_roundw
                case rel => exact ⟨i + 1, HLT.out, by go_num, by rw [HRS.out]; exact (HR8.out.setH HN.out t (r.mem (ov : Nat))).to (fun z _ => by show (if e.k = 2 then _ else r.mem) _ = _; rw [if_neg (by have := HK.out; omega)]) (fun z _ => by show (if e.k = 8 then _ else r.vol) _ = _; rw [if_neg (by have := HK.out; omega)]) (fun z _ => by rw [HRH.out]; exact fin_has (by unfold newR; rw [if_pos HK.out, HOV.out]) z) HRA.out⟩
                case measure => have := HLT.out; simp [intOf]; omega
              · have HK := Lib.hid hj
                have t1 : (e.k == 1) = false := by rw [hj]; rfl
                have t2 : (e.k == 2) = true := by rw [hj]; rfl
                have hob : ov < 8 := by have h1 := HOB.out; have h2 := (nobj_at (k := e.k)).1 (by omega); have h3 := HOV.out; omega
                have hob' : (ov : Int) < 8 := by omega
                have xm := HR8.out.m.cell ov (iv_get _ hob)
                have zm := HR8.out.m.frozen ov
                have xh := HR8.out.h.cell t (iv_get _ ht6)
                clear hj
                go_wp2_with fail
                (refine wp_region_still_tail 6 (by kernel_rfl) (by kernel_rfl) ?_; simp only [List.take_succ_cons, List.take_zero, List.drop_succ_cons, List.drop_zero]; (repeat (first | ((with_reducible refine s_skip ?_ ?_); exact rfl; simp only [Act.put, Act.eval, List.setIfInBounds_toArray, List.set_cons_zero, List.set_cons_succ, Array.getD_eq_getD_getElem?, List.getElem?_toArray, List.getElem?_cons_zero, List.getElem?_cons_succ, Option.getD_some]) | ((with_reducible refine wpStill_step ?_); intro K hK; go_simp; (with_reducible refine hK _ ?_); clear hK K))); (with_reducible refine wpStill_nil ?_))
                change wpList _ _ _ _ _ w2.drew
                go_wp2
                go_roundw
                case rel => exact ⟨i + 1, HLT.out, by go_num, by rw [HRS.out]; exact ((HR8.out.grow (Bel.refl w2).drew).setM HN.out ov (hasJ r (opsP l t) t j t)).to (fun z _ => by show (if e.k = 2 then updI r.mem e.o (midR l r e) else r.mem) (z : Int) = _; rw [if_pos HK.out, HOV.out, HMD2.out]; exact congrFun (nat_upd r.mem ov (hasJ r (opsP l t) t j t)) z) (fun z _ => by show (if e.k = 8 then _ else r.vol) _ = _; rw [if_neg (by have := HK.out; omega)]) (fun z _ => by rw [HRH.out]; exact fin_hasN (by unfold newR; rw [if_neg (by have := HK.out; omega), if_neg (by have := HK.out; omega)]; exact HMD2.out) z) HRA.out⟩
                case measure => have := HLT.out; simp [intOf]; omega
              · have HK := Lib.hid hj
                have t1 : (e.k == 1) = false := by rw [hj]; rfl
                have t2 : (e.k == 2) = false := by rw [hj]; rfl
                have t7 : (e.k == 7) = true := by rw [hj]; rfl
                have hob : ov < 4 := by have h1 := HOB.out; have h2 := (nobj_at (k := e.k)).2.2.2 (by omega); have h3 := HOV.out; omega
                have hob' : (ov : Int) < 4 := by omega
                have xm := HR8.out.v.cell ov (iv_get _ hob)
                have zm := HR8.out.v.frozen ov
                have xh := HR8.out.h.cell t (iv_get _ ht6)
                clear hj
                go_wp2
                go_roundw
                case rel => exact ⟨i + 1, HLT.out, by go_num, by rw [HRS.out]; exact (HR8.out.setH HN.out t (r.vol (ov : Nat))).to (fun z _ => by show (if e.k = 2 then _ else r.mem) _ = _; rw [if_neg (by have := HK.out; omega)]) (fun z _ => by show (if e.k = 8 then _ else r.vol) _ = _; rw [if_neg (by have := HK.out; omega)]) (fun z _ => by rw [HRH.out]; exact fin_has (by unfold newR; rw [if_neg (by have := HK.out; omega), if_pos HK.out, HOV.out]) z) HRA.out⟩
                case measure => have := HLT.out; simp [intOf]; omega
              · have HK := Lib.hid hj
                have t1 : (e.k == 1) = false := by rw [hj]; rfl
                have t2 : (e.k == 2) = false := by rw [hj]; rfl
                have t7 : (e.k == 7) = false := by rw [hj]; rfl
                have t8 : (e.k == 8) = true := by rw [hj]; rfl
                have hob : ov < 4 := by have h1 := HOB.out; have h2 := (nobj_at (k := e.k)).2.2.2 (by omega); have h3 := HOV.out; omega
                have hob' : (ov : Int) < 4 := by omega
                have xm := HR8.out.v.cell ov (iv_get _ hob)
                have zm := HR8.out.v.frozen ov
                have xh := HR8.out.h.cell t (iv_get _ ht6)
                clear hj
                go_wp2_with fail
                (refine wp_region_still_tail 6 (by kernel_rfl) (by kernel_rfl) ?_; simp only [List.take_succ_cons, List.take_zero, List.drop_succ_cons, List.drop_zero]; (repeat (first | ((with_reducible refine s_skip ?_ ?_); exact rfl; simp only [Act.put, Act.eval, List.setIfInBounds_toArray, List.set_cons_zero, List.set_cons_succ, Array.getD_eq_getD_getElem?, List.getElem?_toArray, List.getElem?_cons_zero, List.getElem?_cons_succ, Option.getD_some]) | ((with_reducible refine wpStill_step ?_); intro K hK; go_simp; (with_reducible refine hK _ ?_); clear hK K))); (with_reducible refine wpStill_nil ?_))
                change wpList _ _ _ _ _ w2.drew
                go_wp2
                go_roundw
                case rel => exact ⟨i + 1, HLT.out, by go_num, by rw [HRS.out]; exact ((HR8.out.grow (Bel.refl w2).drew).setV HN.out ov (hasJ r (opsP l t) t j t)).to (fun z _ => by show (if e.k = 2 then _ else r.mem) _ = _; rw [if_neg (by have := HK.out; omega)]) (fun z _ => by show (if e.k = 8 then updI r.vol e.o (midR l r e) else r.vol) (z : Int) = _; rw [if_pos HK.out, HOV.out, HMD2.out]; exact congrFun (nat_upd r.vol ov (hasJ r (opsP l t) t j t)) z) (fun z _ => by rw [HRH.out]; exact fin_hasN (by unfold newR; rw [if_neg (by have := HK.out; omega), if_neg (by have := HK.out; omega)]; exact HMD2.out) z) HRA.out⟩
                case measure => have := HLT.out; simp [intOf]; omega
              · have HK := Lib.hid hj
                have t1 : (e.k == 1) = false := by simpa using hj.1
                have t2 : (e.k == 2) = false := by simpa using hj.2.1
                have t7 : (e.k == 7) = false := by simpa using hj.2.2.1
                have t8 : (e.k == 8) = false := by simpa using hj.2.2.2
                clear hj
                go_wp2
                go_roundw
                case rel => exact ⟨i + 1, HLT.out, by go_num, by rw [HRS.out]; exact HR8.out.to (fun z _ => by show (if e.k = 2 then _ else r.mem) _ = _; rw [if_neg HK.out.2.1]) (fun z _ => by show (if e.k = 8 then _ else r.vol) _ = _; rw [if_neg HK.out.2.2.2]) (fun z _ => by rw [HRH.out]; exact fin_hasN (by unfold newR; rw [if_neg HK.out.1, if_neg HK.out.2.2.1]; exact HMD2.out) z) HRA.out⟩
                case measure => have := HLT.out; simp [intOf]; omega
            · have hpm' : ¬ (p : Int) < m2 := by omega
              go_wp2_with fail
              (refine region_bel (by kernel_rfl) (by kernel_rfl) ?_; (repeat (first | ((with_reducible refine BigFrame.wpQuiet_skip ?_ ?_); exact rfl; simp only [Act.put, Act.eval, List.setIfInBounds_toArray, List.set_cons_zero, List.set_cons_succ, Array.getD_eq_getD_getElem?, List.getElem?_toArray, List.getElem?_cons_zero, List.getElem?_cons_succ, Option.getD_some]) | (refine q_move _ rfl rfl ?_; simp only [Act.put, Act.eval, List.setIfInBounds_toArray, List.set_cons_zero, List.set_cons_succ, Array.getD_eq_getD_getElem?, List.getElem?_toArray, List.getElem?_cons_zero, List.getElem?_cons_succ, Option.getD_some]) | (refine q_assign _ rfl rfl ?_; simp only [Act.put, Act.eval, List.setIfInBounds_toArray, List.set_cons_zero, List.set_cons_succ, Array.getD_eq_getD_getElem?, List.getElem?_toArray, List.getElem?_cons_zero, List.getElem?_cons_succ, Option.getD_some]) | (refine q_any rfl ?_; apply Exists.intro; refine ⟨fun w hw => ?_, ?_⟩; (have fct0 := HF.out w hw; go_simp; first | exact ⟨rfl, rfl⟩ | rfl); simp only [Act.put, Act.eval, List.setIfInBounds_toArray, List.set_cons_zero, List.set_cons_succ, Array.getD_eq_getD_getElem?, List.getElem?_toArray, List.getElem?_cons_zero, List.getElem?_cons_succ, Option.getD_some]))); refine wpQuiet_nil ?_; intro w2 hw2)
              have HR8 := Lib.hid (HRWJ.out.grow hw2)
              have HE8 := Lib.hid (hw2.box HBE.out)
              have HK18 := Lib.hid (ev_k18 HEV.out)
              have HMD2 := Lib.hid (show midR l r e = hasJ r (opsP l t) t j t by rw [HJN.out]; exact mid_has HXT.out HSK.out HOO.out (fun h => by have h1 := HMO.out.1; have h2 := HK18.out.1; rw [h] at h1; have : kOf 3 = 0 := rfl; omega))
              have HRA := Lib.hid (show ∀ z, z < 6 → (repE l r e).a z = atJ r t j z from fun z _ => by rw [repE_a' l r e HXT.out, HSK.out, HJN.out]; rfl)
              have HRH := Lib.hid (repE_has' l r e HXT.out)
              obtain ⟨ov, hov⟩ : ∃ ov : Nat, e.o = ov := ⟨e.o.toNat, by have := isEv_o HEV.out; omega⟩
              have HOV := Lib.hid hov
              have x0 := HE8.out.cell 0 (v := .int .i64 e.k) rfl
              have x2 := (HE8.out.cell 2 (v := .int .i64 e.o) rfl).trans (show _ = some (Value.int .i64 (ov : Int)) by rw [hov])
              have HOB := Lib.hid (isEv_o HEV.out)
              have zT3 := HR8.out.h.frozen t
              clear hw2 hov
              rcases (show e.k = 1 ∨ e.k = 2 ∨ e.k = 7 ∨ e.k = 8 ∨ (e.k ≠ 1 ∧ e.k ≠ 2 ∧ e.k ≠ 7 ∧ e.k ≠ 8) by omega) with hj | hj | hj | hj | hj
              · have HK := Lib.hid hj
                have t1 : (e.k == 1) = true := by rw [hj]; rfl
                have hob : ov < 8 := by have h1 := HOB.out; have h2 := (nobj_at (k := e.k)).1 (by omega); have h3 := HOV.out; omega
                have hob' : (ov : Int) < 8 := by omega
                have xm := HR8.out.m.cell ov (iv_get _ hob)
                have zm := HR8.out.m.frozen ov
                have xh := HR8.out.h.cell t (iv_get _ ht6)
                clear hj
                go_wp2
                go_roundw
                case rel => exact ⟨i + 1, HLT.out, by go_num, by rw [HRS.out]; exact (HR8.out.setH HN.out t (r.mem (ov : Nat))).to (fun z _ => by show (if e.k = 2 then _ else r.mem) _ = _; rw [if_neg (by have := HK.out; omega)]) (fun z _ => by show (if e.k = 8 then _ else r.vol) _ = _; rw [if_neg (by have := HK.out; omega)]) (fun z _ => by rw [HRH.out]; exact fin_has (by unfold newR; rw [if_pos HK.out, HOV.out]) z) HRA.out⟩
                case measure => have := HLT.out; simp [intOf]; omega
              · have HK := Lib.hid hj
                have t1 : (e.k == 1) = false := by rw [hj]; rfl
                have t2 : (e.k == 2) = true := by rw [hj]; rfl
                have hob : ov < 8 := by have h1 := HOB.out; have h2 := (nobj_at (k := e.k)).1 (by omega); have h3 := HOV.out; omega
                have hob' : (ov : Int) < 8 := by omega
                have xm := HR8.out.m.cell ov (iv_get _ hob)
                have zm := HR8.out.m.frozen ov
                have xh := HR8.out.h.cell t (iv_get _ ht6)
                clear hj
                go_wp2_with fail
                (refine wp_region_still_tail 6 (by kernel_rfl) (by kernel_rfl) ?_; simp only [List.take_succ_cons, List.take_zero, List.drop_succ_cons, List.drop_zero]; (repeat (first | ((with_reducible refine s_skip ?_ ?_); exact rfl; simp only [Act.put, Act.eval, List.setIfInBounds_toArray, List.set_cons_zero, List.set_cons_succ, Array.getD_eq_getD_getElem?, List.getElem?_toArray, List.getElem?_cons_zero, List.getElem?_cons_succ, Option.getD_some]) | ((with_reducible refine wpStill_step ?_); intro K hK; go_simp; (with_reducible refine hK _ ?_); clear hK K))); (with_reducible refine wpStill_nil ?_))
                change wpList _ _ _ _ _ w2.drew
                go_wp2
                go_roundw
                case rel => exact ⟨i + 1, HLT.out, by go_num, by rw [HRS.out]; exact ((HR8.out.grow (Bel.refl w2).drew).setM HN.out ov (hasJ r (opsP l t) t j t)).to (fun z _ => by show (if e.k = 2 then updI r.mem e.o (midR l r e) else r.mem) (z : Int) = _; rw [if_pos HK.out, HOV.out, HMD2.out]; exact congrFun (nat_upd r.mem ov (hasJ r (opsP l t) t j t)) z) (fun z _ => by show (if e.k = 8 then _ else r.vol) _ = _; rw [if_neg (by have := HK.out; omega)]) (fun z _ => by rw [HRH.out]; exact fin_hasN (by unfold newR; rw [if_neg (by have := HK.out; omega), if_neg (by have := HK.out; omega)]; exact HMD2.out) z) HRA.out⟩
                case measure => have := HLT.out; simp [intOf]; omega
              · have HK := Lib.hid hj
                have t1 : (e.k == 1) = false := by rw [hj]; rfl
                have t2 : (e.k == 2) = false := by rw [hj]; rfl
                have t7 : (e.k == 7) = true := by rw [hj]; rfl
                have hob : ov < 4 := by have h1 := HOB.out; have h2 := (nobj_at (k := e.k)).2.2.2 (by omega); have h3 := HOV.out; omega
                have hob' : (ov : Int) < 4 := by omega
                have xm := HR8.out.v.cell ov (iv_get _ hob)
                have zm := HR8.out.v.frozen ov
                have xh := HR8.out.h.cell t (iv_get _ ht6)
                clear hj
                go_wp2
                go_roundw
                case rel => exact ⟨i + 1, HLT.out, by go_num, by rw [HRS.out]; exact (HR8.out.setH HN.out t (r.vol (ov : Nat))).to (fun z _ => by show (if e.k = 2 then _ else r.mem) _ = _; rw [if_neg (by have := HK.out; omega)]) (fun z _ => by show (if e.k = 8 then _ else r.vol) _ = _; rw [if_neg (by have := HK.out; omega)]) (fun z _ => by rw [HRH.out]; exact fin_has (by unfold newR; rw [if_neg (by have := HK.out; omega), if_pos HK.out, HOV.out]) z) HRA.out⟩
                case measure => have := HLT.out; simp [intOf]; omega
              · have HK := Lib.hid hj
                have t1 : (e.k == 1) = false := by rw [hj]; rfl
                have t2 : (e.k == 2) = false := by rw [hj]; rfl
                have t7 : (e.k == 7) = false := by rw [hj]; rfl
                have t8 : (e.k == 8) = true := by rw [hj]; rfl
                have hob : ov < 4 := by have h1 := HOB.out; have h2 := (nobj_at (k := e.k)).2.2.2 (by omega); have h3 := HOV.out; omega
                have hob' : (ov : Int) < 4 := by omega
                have xm := HR8.out.v.cell ov (iv_get _ hob)
                have zm := HR8.out.v.frozen ov
                have xh := HR8.out.h.cell t (iv_get _ ht6)
                clear hj
                go_wp2_with fail
                (refine wp_region_still_tail 6 (by kernel_rfl) (by kernel_rfl) ?_; simp only [List.take_succ_cons, List.take_zero, List.drop_succ_cons, List.drop_zero]; (repeat (first | ((with_reducible refine s_skip ?_ ?_); exact rfl; simp only [Act.put, Act.eval, List.setIfInBounds_toArray, List.set_cons_zero, List.set_cons_succ, Array.getD_eq_getD_getElem?, List.getElem?_toArray, List.getElem?_cons_zero, List.getElem?_cons_succ, Option.getD_some]) | ((with_reducible refine wpStill_step ?_); intro K hK; go_simp; (with_reducible refine hK _ ?_); clear hK K))); (with_reducible refine wpStill_nil ?_))
                change wpList _ _ _ _ _ w2.drew
                go_wp2
                go_roundw
                case rel => exact ⟨i + 1, HLT.out, by go_num, by rw [HRS.out]; exact ((HR8.out.grow (Bel.refl w2).drew).setV HN.out ov (hasJ r (opsP l t) t j t)).to (fun z _ => by show (if e.k = 2 then _ else r.mem) _ = _; rw [if_neg (by have := HK.out; omega)]) (fun z _ => by show (if e.k = 8 then updI r.vol e.o (midR l r e) else r.vol) (z : Int) = _; rw [if_pos HK.out, HOV.out, HMD2.out]; exact congrFun (nat_upd r.vol ov (hasJ r (opsP l t) t j t)) z) (fun z _ => by rw [HRH.out]; exact fin_hasN (by unfold newR; rw [if_neg (by have := HK.out; omega), if_neg (by have := HK.out; omega)]; exact HMD2.out) z) HRA.out⟩
                case measure => have := HLT.out; simp [intOf]; omega
              · have HK := Lib.hid hj
                have t1 : (e.k == 1) = false := by simpa using hj.1
                have t2 : (e.k == 2) = false := by simpa using hj.2.1
                have t7 : (e.k == 7) = false := by simpa using hj.2.2.1
                have t8 : (e.k == 8) = false := by simpa using hj.2.2.2
                clear hj
                go_wp2
                go_roundw
                case rel => exact ⟨i + 1, HLT.out, by go_num, by rw [HRS.out]; exact HR8.out.to (fun z _ => by show (if e.k = 2 then _ else r.mem) _ = _; rw [if_neg HK.out.2.1]) (fun z _ => by show (if e.k = 8 then _ else r.vol) _ = _; rw [if_neg HK.out.2.2.2]) (fun z _ => by rw [HRH.out]; exact fin_hasN (by unfold newR; rw [if_neg HK.out.1, if_neg HK.out.2.2.1]; exact HMD2.out) z) HRA.out⟩
                case measure => have := HLT.out; simp [intOf]; omega
          · rw [decide_eq_false hjn]
            have HJN := Lib.hid (show j ≤ nn by have := HJ.out; omega)
            clear hjn
            obtain ⟨bb3, oo3, y, rfl, hbb3, hy, hrg3⟩ := (HSL.out.bel HRWJ.out.bel.out).at_ (show r.a t + j < m2 by have := HAN.out; have := HJN.out; omega)
            have hpm' : ((r.a t + j : Nat) : Int) < m2 := by have := HAN.out; have := HJN.out; omega
            have hpd : ((r.a t + j : Nat) : Int) ≤ d2 := by have := HMD.out; omega
            have HY := Lib.hid hy
            have HYO := Lib.hid (HOK.out.op t y (List.mem_of_getElem? hy))
            have HYK := Lib.hid (isOp_obj HYO.out)
            have hw12 : IntKind.i64.wrap (((r.a t + j : Nat) : Int) + 1) = ((r.a t + j + 1 : Nat) : Int) := by rw [IntWalk.i64_in _ (by have := HLE.out; have := HAN.out; have := HJN.out; omega)]; omega
            have HW12 := Lib.hid hw12
            have HBY := Lib.hid (And.intro hbb3 hrg3)
            clear hw12 hy hbb3 hrg3
            generalize hp : r.a t + j = p at *
            have HP := Lib.hid hp
            clear hp
            go_wp2_with fail
            (refine region_bel (by kernel_rfl) (by kernel_rfl) ?_; (repeat (first | ((with_reducible refine BigFrame.wpQuiet_skip ?_ ?_); exact rfl; simp only [Act.put, Act.eval, List.setIfInBounds_toArray, List.set_cons_zero, List.set_cons_succ, Array.getD_eq_getD_getElem?, List.getElem?_toArray, List.getElem?_cons_zero, List.getElem?_cons_succ, Option.getD_some]) | (refine q_move _ rfl rfl ?_; simp only [Act.put, Act.eval, List.setIfInBounds_toArray, List.set_cons_zero, List.set_cons_succ, Array.getD_eq_getD_getElem?, List.getElem?_toArray, List.getElem?_cons_zero, List.getElem?_cons_succ, Option.getD_some]) | (refine q_assign _ rfl rfl ?_; simp only [Act.put, Act.eval, List.setIfInBounds_toArray, List.set_cons_zero, List.set_cons_succ, Array.getD_eq_getD_getElem?, List.getElem?_toArray, List.getElem?_cons_zero, List.getElem?_cons_succ, Option.getD_some]) | (refine q_any rfl ?_; apply Exists.intro; refine ⟨fun w hw => ?_, ?_⟩; (have fct0 := HF.out w hw; go_simp; first | exact ⟨rfl, rfl⟩ | rfl); simp only [Act.put, Act.eval, List.setIfInBounds_toArray, List.set_cons_zero, List.set_cons_succ, Array.getD_eq_getD_getElem?, List.getElem?_toArray, List.getElem?_cons_zero, List.getElem?_cons_succ, Option.getD_some]))); refine wpQuiet_nil ?_; intro w2 hw2)
            have HB6 := Lib.hid hw2
            clear hw2
            go_upto_region 21 with fail
            have HROW := fun (w1 : World) (h1 : Below w2.heap.size w2 w1) => rangeAt_below h1 (Nat.lt_of_lt_of_le HBY.out.1 HB6.out.size) (rangeAt_below HB6.out.out HBY.out.1 HBY.out.2)
            have F2 := fun (w1 : World) (h1 : Below w2.heap.size w2 w1) => HF.out w1 (HB6.out.trans (Bel.of h1))
            refine region_grow (by kernel_rfl) ?_
            (repeat (first | ((first | refine wpG_go 0 (by simp only [List.getElem?_toArray, List.getElem?_cons_zero, List.getElem?_cons_succ] <;> rfl) (by decide +kernel) (by decide +kernel) (by kernel_rfl) (by rfl) (by exact fun _ _ _ _ h => h) (Nat.le_refl _) ?_ | refine wpG_go 1 (by simp only [List.getElem?_toArray, List.getElem?_cons_zero, List.getElem?_cons_succ] <;> rfl) (by decide +kernel) (by decide +kernel) (by kernel_rfl) (by rfl) (by exact fun _ _ _ _ h => h) (Nat.le_refl _) ?_ | refine wpG_go 2 (by simp only [List.getElem?_toArray, List.getElem?_cons_zero, List.getElem?_cons_succ] <;> rfl) (by decide +kernel) (by decide +kernel) (by kernel_rfl) (by rfl) (by exact fun _ _ _ _ h => h) (Nat.le_refl _) ?_ | refine wpG_go 3 (by simp only [List.getElem?_toArray, List.getElem?_cons_zero, List.getElem?_cons_succ] <;> rfl) (by decide +kernel) (by decide +kernel) (by kernel_rfl) (by rfl) (by exact fun _ _ _ _ h => h) (Nat.le_refl _) ?_ | refine wpG_go 4 (by simp only [List.getElem?_toArray, List.getElem?_cons_zero, List.getElem?_cons_succ] <;> rfl) (by decide +kernel) (by decide +kernel) (by kernel_rfl) (by rfl) (by exact fun _ _ _ _ h => h) (Nat.le_refl _) ?_ | refine wpG_go 5 (by simp only [List.getElem?_toArray, List.getElem?_cons_zero, List.getElem?_cons_succ] <;> rfl) (by decide +kernel) (by decide +kernel) (by kernel_rfl) (by rfl) (by exact fun _ _ _ _ h => h) (Nat.le_refl _) ?_ | refine wpG_go 6 (by simp only [List.getElem?_toArray, List.getElem?_cons_zero, List.getElem?_cons_succ] <;> rfl) (by decide +kernel) (by decide +kernel) (by kernel_rfl) (by rfl) (by exact fun _ _ _ _ h => h) (Nat.le_refl _) ?_ | refine wpG_go 7 (by simp only [List.getElem?_toArray, List.getElem?_cons_zero, List.getElem?_cons_succ] <;> rfl) (by decide +kernel) (by decide +kernel) (by kernel_rfl) (by rfl) (by exact fun _ _ _ _ h => h) (Nat.le_refl _) ?_ | refine wpG_go 8 (by simp only [List.getElem?_toArray, List.getElem?_cons_zero, List.getElem?_cons_succ] <;> rfl) (by decide +kernel) (by decide +kernel) (by kernel_rfl) (by rfl) (by exact fun _ _ _ _ h => h) (Nat.le_refl _) ?_); apply Exists.intro; refine ⟨fun w1 h1 => ?_, ?_⟩; (first | exact g_move _ rfl | exact g_assign _ rfl | exact g_load_mid _ _ rfl rfl (HROW w1 h1) TOp' (evv y) rfl | (have fct0 := F2 w1 h1; go_simp; first | exact ⟨rfl, rfl⟩ | rfl)); simp only [Act.put, Act.eval, List.setIfInBounds_toArray, List.set_cons_zero, List.set_cons_succ, Array.getD_eq_getD_getElem?, List.getElem?_toArray, List.getElem?_cons_zero, List.getElem?_cons_succ, Option.getD_some]) | ((first | refine wpG_skip 0 (by simp only [List.getElem?_toArray, List.getElem?_cons_zero, List.getElem?_cons_succ] <;> rfl) (by decide +kernel) (by decide +kernel) (by kernel_rfl) (by rfl) (by exact fun _ _ _ _ h => h) (Nat.le_refl _) ?_ | refine wpG_skip 1 (by simp only [List.getElem?_toArray, List.getElem?_cons_zero, List.getElem?_cons_succ] <;> rfl) (by decide +kernel) (by decide +kernel) (by kernel_rfl) (by rfl) (by exact fun _ _ _ _ h => h) (Nat.le_refl _) ?_ | refine wpG_skip 2 (by simp only [List.getElem?_toArray, List.getElem?_cons_zero, List.getElem?_cons_succ] <;> rfl) (by decide +kernel) (by decide +kernel) (by kernel_rfl) (by rfl) (by exact fun _ _ _ _ h => h) (Nat.le_refl _) ?_ | refine wpG_skip 3 (by simp only [List.getElem?_toArray, List.getElem?_cons_zero, List.getElem?_cons_succ] <;> rfl) (by decide +kernel) (by decide +kernel) (by kernel_rfl) (by rfl) (by exact fun _ _ _ _ h => h) (Nat.le_refl _) ?_ | refine wpG_skip 4 (by simp only [List.getElem?_toArray, List.getElem?_cons_zero, List.getElem?_cons_succ] <;> rfl) (by decide +kernel) (by decide +kernel) (by kernel_rfl) (by rfl) (by exact fun _ _ _ _ h => h) (Nat.le_refl _) ?_ | refine wpG_skip 5 (by simp only [List.getElem?_toArray, List.getElem?_cons_zero, List.getElem?_cons_succ] <;> rfl) (by decide +kernel) (by decide +kernel) (by kernel_rfl) (by rfl) (by exact fun _ _ _ _ h => h) (Nat.le_refl _) ?_ | refine wpG_skip 6 (by simp only [List.getElem?_toArray, List.getElem?_cons_zero, List.getElem?_cons_succ] <;> rfl) (by decide +kernel) (by decide +kernel) (by kernel_rfl) (by rfl) (by exact fun _ _ _ _ h => h) (Nat.le_refl _) ?_ | refine wpG_skip 7 (by simp only [List.getElem?_toArray, List.getElem?_cons_zero, List.getElem?_cons_succ] <;> rfl) (by decide +kernel) (by decide +kernel) (by kernel_rfl) (by rfl) (by exact fun _ _ _ _ h => h) (Nat.le_refl _) ?_ | refine wpG_skip 8 (by simp only [List.getElem?_toArray, List.getElem?_cons_zero, List.getElem?_cons_succ] <;> rfl) (by decide +kernel) (by decide +kernel) (by kernel_rfl) (by rfl) (by exact fun _ _ _ _ h => h) (Nat.le_refl _) ?_); simp only [Act.put, Act.eval, List.setIfInBounds_toArray, List.set_cons_zero, List.set_cons_succ, Array.getD_eq_getD_getElem?, List.getElem?_toArray, List.getElem?_cons_zero, List.getElem?_cons_succ, Option.getD_some])))
            (refine wpG_one 9 (by decide +kernel) ?_; intro w6 hw6; refine op_wanted (by simp only [List.getElem?_toArray, List.getElem?_cons_zero, List.getElem?_cons_succ] <;> rfl) rfl ?_)
            refine wp_new _ rfl j0 hj0 _ gz0 ⟨Below.alloc (Below.refl _ _) hw6.size _, ?_⟩
            simp only [Act.put, Act.eval, List.setIfInBounds_toArray, List.set_cons_zero, List.set_cons_succ, Array.getD_eq_getD_getElem?, List.getElem?_toArray, List.getElem?_cons_zero, List.getElem?_cons_succ, Option.getD_some]
            (refine wpG_one 10 (by decide +kernel) ?_; intro w7 hw7; refine op_wanted (by simp only [List.getElem?_toArray, List.getElem?_cons_zero, List.getElem?_cons_succ] <;> rfl) rfl ?_)
            have hbx := hw7.box (Box.new w6 #[.int .i64 0, .int .i64 0, .int .i64 0] 63)
            refine wp_storeB TOp' _ _ rfl rfl rfl rfl hbx rfl (evv_all y) ⟨below_setRow' (Below.refl _ _) _ _ hw6.size, ?_⟩
            simp only [Act.put, Act.eval, List.setIfInBounds_toArray, List.set_cons_zero, List.set_cons_succ, Array.getD_eq_getD_getElem?, List.getElem?_toArray, List.getElem?_cons_zero, List.getElem?_cons_succ, Option.getD_some]
            (refine wpG_done (by decide +kernel) ?_ _; intro w8 hw8; try simp only [Act.put, Act.eval, List.setIfInBounds_toArray, List.set_cons_zero, List.set_cons_succ, Array.getD_eq_getD_getElem?, List.getElem?_toArray, List.getElem?_cons_zero, List.getElem?_cons_succ, Option.getD_some])
            have HX8 := Lib.hid (hw8.box (hbx.setRow (evv y)))
            have hD := ((Bel.refl w2).trans hw6)
            have HB8 := Lib.hid (HB6.out.trans ((Bel.of (below_setRow' ((hD.alloc (.cells #[.int .i64 0, .int .i64 0, .int .i64 0] 63)).trans hw7).out w6.heap.size (evv y) hw6.size)).trans hw8))
            have HXX := Lib.hid (show MM < w6.heap.size by have := (Array.getElem?_eq_some_iff.1 (HRWJ.out.grow (HB6.out.trans hw6)).mp).1; exact this)
            have HXX2 := Lib.hid (show X < w6.heap.size from ((HB6.out.trans hw6).box HBE.out).lt)
            generalize w6.heap.size = X6 at *
            clear hw6 hw7 hw8 hbx hD HROW F2
            have HR8 := Lib.hid (HRWJ.out.grow HB8.out)
            have HE8 := Lib.hid (HB8.out.box HBE.out)
            have hlk := klook w8 MM HR8.out.mp HYK.out.1 HYK.out.2.1
            have d0 := HX8.out.cell 0 (v := .int .i64 y.k) rfl
            have d1 := HX8.out.cell 1 (v := .int .i64 y.t) rfl
            have d2' := HX8.out.cell 2 (v := .int .i64 y.o) rfl
            have x0 := HE8.out.cell 0 (v := .int .i64 e.k) rfl
            have x2 := HE8.out.cell 2 (v := .int .i64 e.o) rfl
            cases q1 : (kOf y.k == e.k)
            · have HNM := Lib.hid (show j < nn by
                rcases Nat.lt_or_ge j nn with h | h
                · exact h
                · exfalso
                  have hjn : j = nn := by have := HJN.out; omega
                  have := HY.out
                  rw [← HP.out, hjn, HOO.out] at this
                  cases this
                  rw [HMO.out.1] at q1
                  simp at q1)
              by_cases q3 : y.k = 3
              · have q3' : (y.k == 3) = true := by simpa using q3
                have HK3 := Lib.hid q3
                clear q3
                have hh := (HR8.out.h.cell t (iv_get _ ht6))
                have HHV := Lib.hid (show Lim 12000 (addL (((opsP l t).drop (r.a t)).take j)) from HAP.out t (r.a t) j)
                have HHJ := Lib.hid (hasJ_at r (opsP l t) t j)
                have HWH := Lib.hid (show IntKind.i64.wrap (hasJ r (opsP l t) t j t + y.o) = hasJ r (opsP l t) t j t + y.o from IntWalk.i64_in _ (by rw [HHJ.out]; have h1 := HHV.out.1; have h2 := HHV.out.2; have h3 := (HLI.out.has t).1; have h4 := (HLI.out.has t).2; have h5 := HI80.out; have h6 := (isOp_num HYO.out).1; have h7 := (isOp_num HYO.out).2; omega))
                go_upto_region 24 with fail
                have hwh := HWH.out
                have hfz := HR8.out.h.frozen t
                (refine wp_region_still_tail 7 (by kernel_rfl) (by kernel_rfl) ?_; simp only [List.take_succ_cons, List.take_zero, List.drop_succ_cons, List.drop_zero]; (repeat (first | ((with_reducible refine s_skip ?_ ?_); exact rfl; simp only [Act.put, Act.eval, List.setIfInBounds_toArray, List.set_cons_zero, List.set_cons_succ, Array.getD_eq_getD_getElem?, List.getElem?_toArray, List.getElem?_cons_zero, List.getElem?_cons_succ, Option.getD_some]) | ((with_reducible refine wpStill_step ?_); intro K hK; go_simp; (with_reducible refine hK _ ?_); clear hK K))); (with_reducible refine wpStill_nil ?_))
                change wpList _ _ _ _ _ w8.drew
                go_upto_region 25 with fail
                have HR9 := Lib.hid (show ReW w3 T1 T2 T3 T4 MM (fun j => r.mem (j : Nat)) (fun j => r.vol (j : Nat)) (hasJ r (opsP l t) t (j + 1)) (atJ r t j) (w8.drew.setCell ⟨T3, t, none⟩ (.int .i64 (hasJ r (opsP l t) t j t + y.o))) by have h := (HR8.out.grow (Bel.refl w8).drew).setH HN.out t (hasJ r (opsP l t) t j t + y.o); rwa [hasJ_add (by rw [HP.out]; exact HY.out) HK3.out] at h)
                have HE9 := Lib.hid (show Box (w8.drew.setCell ⟨T3, t, none⟩ (.int .i64 (hasJ r (opsP l t) t j t + y.o))) X (evv e) 54 from (HE8.out.drew).set_ne ⟨T3, t, none⟩ _ (by have h1 := HXM.out; have h2 := HN.out.l3; have h3 := HN.out.l4; dsimp only; omega))
                clear hlk d0 d1 d2' x0 x2 hh hwh hfz HR8 HE8 q1 q3'
                generalize hww : (w8.setCell ⟨T3, t, none⟩ (.int .i64 (hasJ r (opsP l t) t j t + y.o))).drew = w9 at *
                have HR9 := Lib.hid (show ReW w3 T1 T2 T3 T4 MM (fun j => r.mem (j : Nat)) (fun j => r.vol (j : Nat)) (hasJ r (opsP l t) t (j + 1)) (atJ r t j) w9 from hww ▸ HR9.out)
                have HE9 := Lib.hid (show Box w9 X (evv e) 54 from hww ▸ HE9.out)
                clear hww
                have ct := (HR9.out.a.cell t (iv_get _ ht6)).trans (show _ = some (Value.int .i64 (p : Int)) by show some (Value.int .i64 ((atJ r t j t : Nat) : Int)) = _; rw [atJ_at, HP.out])
                have zt := HR9.out.a.frozen t
                have hw12 := HW12.out
                go_wp2
                have HR10 := Lib.hid (show ReW w3 T1 T2 T3 T4 MM (fun j => r.mem (j : Nat)) (fun j => r.vol (j : Nat)) (hasJ r (opsP l t) t (j + 1)) (atJ r t (j + 1)) (w9.setCell ⟨T4, t, none⟩ (.int .i64 ((p + 1 : Nat) : Int))) by have h := HR9.out.setA HN.out t (p + 1); rw [← HP.out, atJ_next] at h; rw [← HP.out]; exact h)
                have HE10 := Lib.hid (HE9.out.set_ne ⟨T4, t, none⟩ (.int .i64 ((p + 1 : Nat) : Int)) (by have h1 := HXM.out; have h3 := HN.out.l4; dsimp only; omega))
                go_roundw
                case rel => exact ⟨j + 1, by have := HJN.out; omega, by rw [decide_eq_false (show ¬ j + 1 = nn + 1 by have := HNM.out; omega)], HR10.out, HE10.out⟩
                case measure => rw [show ((p : Int) + 1) = ((p + 1 : Nat) : Int) by omega, HR10.out.a.cell t (iv_get _ ht6), HRWJ.out.a.cell t (iv_get _ ht6), atJ_at, atJ_at]; simp [intOf]; have := HJN.out; omega
              · have q3' : (y.k == 3) = false := by simpa using q3
                have HK3 := Lib.hid q3
                clear q3
                go_upto_region 25 with fail
                have HR9 := Lib.hid (show ReW w3 T1 T2 T3 T4 MM (fun j => r.mem (j : Nat)) (fun j => r.vol (j : Nat)) (hasJ r (opsP l t) t (j + 1)) (atJ r t j) w8 by rw [hasJ_no (by rw [HP.out]; exact HY.out) HK3.out]; exact HR8.out)
                have HE9 := HE8
                clear hlk d0 d1 d2' x0 x2 HR8 q1 q3'
                generalize w8 = w9 at *
                have ct := (HR9.out.a.cell t (iv_get _ ht6)).trans (show _ = some (Value.int .i64 (p : Int)) by show some (Value.int .i64 ((atJ r t j t : Nat) : Int)) = _; rw [atJ_at, HP.out])
                have zt := HR9.out.a.frozen t
                have hw12 := HW12.out
                go_wp2
                have HR10 := Lib.hid (show ReW w3 T1 T2 T3 T4 MM (fun j => r.mem (j : Nat)) (fun j => r.vol (j : Nat)) (hasJ r (opsP l t) t (j + 1)) (atJ r t (j + 1)) (w9.setCell ⟨T4, t, none⟩ (.int .i64 ((p + 1 : Nat) : Int))) by have h := HR9.out.setA HN.out t (p + 1); rw [← HP.out, atJ_next] at h; rw [← HP.out]; exact h)
                have HE10 := Lib.hid (HE9.out.set_ne ⟨T4, t, none⟩ (.int .i64 ((p + 1 : Nat) : Int)) (by have h1 := HXM.out; have h3 := HN.out.l4; dsimp only; omega))
                go_roundw
                case rel => exact ⟨j + 1, by have := HJN.out; omega, by rw [decide_eq_false (show ¬ j + 1 = nn + 1 by have := HNM.out; omega)], HR10.out, HE10.out⟩
                case measure => rw [show ((p : Int) + 1) = ((p + 1 : Nat) : Int) by omega, HR10.out.a.cell t (iv_get _ ht6), HRWJ.out.a.cell t (iv_get _ ht6), atJ_at, atJ_at]; simp [intOf]; have := HJN.out; omega
            · have hke : kOf y.k = e.k := by simpa using q1
              have hek : 1 ≤ e.k := (ev_k18 HEV.out).1
              have q3 : y.k ≠ 3 := fun h => by rw [h] at hke; have : kOf 3 = 0 := rfl; omega
              have q3' : (y.k == 3) = false := by simpa using q3
              have HK3 := Lib.hid q3
              clear q3 hek
              have HKE := Lib.hid hke
              clear hke
              cases q2 : (y.t == e.o)
              · have HNM := Lib.hid (show j < nn by
                  rcases Nat.lt_or_ge j nn with h | h
                  · exact h
                  · exfalso
                    have hjn : j = nn := by have := HJN.out; omega
                    have := HY.out
                    rw [← HP.out, hjn, HOO.out] at this
                    cases this
                    rw [HMO.out.2] at q2
                    simp at q2)
                go_upto_region 25 with fail
                have HR9 := Lib.hid (show ReW w3 T1 T2 T3 T4 MM (fun j => r.mem (j : Nat)) (fun j => r.vol (j : Nat)) (hasJ r (opsP l t) t (j + 1)) (atJ r t j) w8 by rw [hasJ_no (by rw [HP.out]; exact HY.out) HK3.out]; exact HR8.out)
                have HE9 := HE8
                clear hlk d0 d1 d2' x0 x2 HR8 q1 q3'
                generalize w8 = w9 at *
                have ct := (HR9.out.a.cell t (iv_get _ ht6)).trans (show _ = some (Value.int .i64 (p : Int)) by show some (Value.int .i64 ((atJ r t j t : Nat) : Int)) = _; rw [atJ_at, HP.out])
                have zt := HR9.out.a.frozen t
                have hw12 := HW12.out
                go_wp2
                have HR10 := Lib.hid (show ReW w3 T1 T2 T3 T4 MM (fun j => r.mem (j : Nat)) (fun j => r.vol (j : Nat)) (hasJ r (opsP l t) t (j + 1)) (atJ r t (j + 1)) (w9.setCell ⟨T4, t, none⟩ (.int .i64 ((p + 1 : Nat) : Int))) by have h := HR9.out.setA HN.out t (p + 1); rw [← HP.out, atJ_next] at h; rw [← HP.out]; exact h)
                have HE10 := Lib.hid (HE9.out.set_ne ⟨T4, t, none⟩ (.int .i64 ((p + 1 : Nat) : Int)) (by have h1 := HXM.out; have h3 := HN.out.l4; dsimp only; omega))
                go_roundw
                case rel => exact ⟨j + 1, by have := HJN.out; omega, by rw [decide_eq_false (show ¬ j + 1 = nn + 1 by have := HNM.out; omega)], HR10.out, HE10.out⟩
                case measure => rw [show ((p : Int) + 1) = ((p + 1 : Nat) : Int) by omega, HR10.out.a.cell t (iv_get _ ht6), HRWJ.out.a.cell t (iv_get _ ht6), atJ_at, atJ_at]; simp [intOf]; have := HJN.out; omega
              · have HNM := Lib.hid (show j = nn by
                  rcases Nat.lt_or_ge j nn with h | h
                  · exfalso
                    rcases HNO.out j y h (by rw [HP.out]; exact HY.out) with g | g
                    · exact g HKE.out
                    · exact g (by simpa using q2)
                  · have := HJN.out; omega)
                go_upto_region 25 with fail
                have HR9 := Lib.hid (show ReW w3 T1 T2 T3 T4 MM (fun j => r.mem (j : Nat)) (fun j => r.vol (j : Nat)) (hasJ r (opsP l t) t (j + 1)) (atJ r t j) w8 by rw [hasJ_no (by rw [HP.out]; exact HY.out) HK3.out]; exact HR8.out)
                have HE9 := HE8
                clear hlk d0 d1 d2' x0 x2 HR8 q1 q3'
                generalize w8 = w9 at *
                have ct := (HR9.out.a.cell t (iv_get _ ht6)).trans (show _ = some (Value.int .i64 (p : Int)) by show some (Value.int .i64 ((atJ r t j t : Nat) : Int)) = _; rw [atJ_at, HP.out])
                have zt := HR9.out.a.frozen t
                have hw12 := HW12.out
                go_wp2
                have HR10 := Lib.hid (show ReW w3 T1 T2 T3 T4 MM (fun j => r.mem (j : Nat)) (fun j => r.vol (j : Nat)) (hasJ r (opsP l t) t (j + 1)) (atJ r t (j + 1)) (w9.setCell ⟨T4, t, none⟩ (.int .i64 ((p + 1 : Nat) : Int))) by have h := HR9.out.setA HN.out t (p + 1); rw [← HP.out, atJ_next] at h; rw [← HP.out]; exact h)
                have HE10 := Lib.hid (HE9.out.set_ne ⟨T4, t, none⟩ (.int .i64 ((p + 1 : Nat) : Int)) (by have h1 := HXM.out; have h3 := HN.out.l4; dsimp only; omega))
                go_roundw
                case rel => exact ⟨j + 1, by have := HJN.out; omega, by rw [decide_eq_true (show j + 1 = nn + 1 by rw [HNM.out])], HR10.out, HE10.out⟩
                case measure => rw [show ((p : Int) + 1) = ((p + 1 : Nat) : Int) by omega, HR10.out.a.cell t (iv_get _ ht6), HRWJ.out.a.cell t (iv_get _ ht6), atJ_at, atJ_at]; simp [intOf]; have := HJN.out; omega
      · have htk : l1.take i = l1 := by rw [show i = l1.length by omega, List.take_length]
        rw [htk] at hr
        skip
        have HRX := Lib.hid hr
        have HXF := Lib.hid (hr.bel.box HX3.out)
        have HF8 := Lib.hid (show ∀ j : Nat, (repL l l1).mem (j : Nat) = (runP l q).mem (j : Nat) from fun j => by rw [HSM.out.mem])
        have HF4 := Lib.hid (show ∀ j : Nat, (repL l l1).vol (j : Nat) = (runP l q).vol (j : Nat) from fun j => by rw [HSM.out.vol])
        generalize hf8 : (fun j : Nat => (repL l l1).mem (j : Nat)) = f8 at *
        generalize hf4 : (fun j : Nat => (repL l l1).vol (j : Nat)) = f4 at *
        have HRG8 := Lib.hid (show wr.rangeAt w1.heap.size 0 (iv 8 f8).toList from fun j v hv => by
          have h8 : j < 8 := by have := (List.getElem?_eq_some_iff.1 hv).1; simpa [iv, vs] using this
          have hv2 : some (Value.int .i64 (f8 j)) = some v := by rw [← iv_get f8 h8]; simpa using hv
          cases hv2
          rw [Nat.zero_add, ← hf8]
          exact (HXF.out.cell j (v := .int .i64 ((repL l l1).mem (j : Nat))) (by
            rw [HF8.out]
            match j, h8 with
            | 0, _ => rfl | 1, _ => rfl | 2, _ => rfl | 3, _ => rfl | 4, _ => rfl | 5, _ => rfl | 6, _ => rfl | 7, _ => rfl)))
        have HRG4 := Lib.hid (show wr.rangeAt w1.heap.size 8 (iv 4 f4).toList from fun j v hv => by
          have h4 : j < 4 := by have := (List.getElem?_eq_some_iff.1 hv).1; simpa [iv, vs] using this
          have hv2 : some (Value.int .i64 (f4 j)) = some v := by rw [← iv_get f4 h4]; simpa using hv
          cases hv2
          rw [← hf4]
          exact (HXF.out.cell (8 + j) (v := .int .i64 ((repL l l1).vol (j : Nat))) (by
            rw [HF4.out]
            match j, h4 with
            | 0, _ => rfl | 1, _ => rfl | 2, _ => rfl | 3, _ => rfl)))
        have HTL8 := Lib.hid (show RowTy Try.prog 45 (iv 8 f8).toList.length by rw [Array.length_toList]; exact TIv8 f8)
        have HTL4 := Lib.hid (show RowTy Try.prog 46 (iv 4 f4).toList.length by rw [Array.length_toList]; exact TIv4 f4)
        clear hf8 hf4 HF8 HF4 HSM hr H0 htk
        go_wp2_with (first | (refine loadGmR 45 _ rfl rfl rfl HRG8.out HTL8.out (iv 8 f8) rfl ?_) | (refine loadGmR 46 _ rfl rfl rfl HRG4.out HTL4.out (iv 4 f4) rfl ?_) | (refine loadG 45 _ rfl rfl rfl HRX.out.m (TIv8 f8) ?_) | (refine loadG 46 _ rfl rfl rfl HRX.out.v (TIv4 f4) ?_) | (refine eqlG_step 45 _ _ _ rfl rfl rfl rfl grd8 (eql_iv8 f8 _) ?_) | (refine eqlG_step 46 _ _ _ rfl rfl rfl rfl grd4 (eql_iv4 f4 _) ?_))
        go_ret
        exact ⟨rfl, (HE3.out.trans HRX.out.bel).out⟩
set_option maxRecDepth 100000 in
theorem lifted (os : Os) (started : os.Started) (H : Type) (enc : TypeId × Value → H) :
    ReturnsInHanded {} Try.checked os 7 .any (Rows.topReplaySpec.pre6 enc Try.prog Try.f7 Rows.topReplayRow.domain false) (Rows.topReplaySpec.post enc Try.prog Try.f7 false true false false) := by
  refine returnsInHanded_of_change_sized (C := Try.checked) own started (by kernel_rfl) Try.func7
    (ChangeSpec.witness6 (enc := enc) (C := Try.checked) false ⟨#[], #[.slice none 0 0, .slice none 0 0], []⟩ 8 (by kernel_rfl) (by kernel_rfl) (by kernel_rfl) (by kernel_rfl)) ?_
  intro W base args ds gs before hval0 hW hcnd hsz0 _
  have hsz : (DataW.weightsEach Try.prog (Try.f7.params.toList ++ Rows.topReplaySpec.plain.varTypes Try.prog) (ds ++ gs)).all (· ≤ reachBytes) = true := hsz0
  clear hsz0
  have hval : ∀ (j : Nat) t v, Try.f7.params[j]? = some t → args[j]? = some v → Value.okWide Try.prog W .any base t v := hval0
  have hW' := hW
  obtain ⟨p, q, hA0, hV, rfl, hfz, hnd⟩ := hW
  have hA : DataW.TrodAll enc Try.prog W 0 (fun _ => true) true Try.f7.params.toList args.toList ds p := hA0
  rw [Try.params7] at hA hval hsz
  obtain ⟨v0, vs0, d0, ds0, p0, q0, hargs, rfl, rfl, h0, r0⟩ := trodAll_cons hA
  obtain ⟨v1, vs1, d1, ds1, p1, q1, rfl, rfl, rfl, h1, r1⟩ := trodAll_cons r0
  obtain ⟨rfl, rfl, rfl⟩ := trodAll_nil r1
  obtain rfl : args = #[v0, v1] := by cases args; simp_all
  obtain ⟨rfl, rfl⟩ := trodVars_none hV
  have t0 := h0
  have lt0 : ∀ x ∈ p0, x.block < W.heap.size := by obtain ⟨m, hm⟩ := t0; exact DataW.trod_lt m _ _ _ hm
  have t1 := h1
  have lt1 : ∀ x ∈ p1, x.block < W.heap.size := by obtain ⟨m, hm⟩ := t1; exact DataW.trod_lt m _ _ _ hm
  obtain ⟨A0, n0, c0, l0, rfl, s0, m0, x0, g0⟩ := open_ops Try.underlying44 (by kernel_rfl) Try.underlying61 Try.underlying63 ⟨rfl, rfl, rfl⟩ (by kernel_rfl) (by kernel_rfl) Try.underlying3 (hval 0 44 v0 rfl rfl) h0
  obtain ⟨A1, n1, c1, l1, rfl, s1, m1, x1, g1⟩ := open_ints_arg Try.underlying23 Try.underlying3 (by kernel_rfl) (hval 1 23 v1 rfl rfl) h1
  clear hA0 hval0
  refine (walkH pgrun_c works_any W A0 n0 c0 l0 s0 m0 x0 g0 A1 n1 c1 l1 s1 m1 x1 g1).mono fun e W' ⟨he, bel⟩ => ?_
  subst he
  exact ⟨_, rfl, _, _, _, [], _, [], hW', trodAll_mk1 (shut_bool Try.underlying4 _), (trodAll_cons_mk (Below.trod laidOut (by kernel_rfl) (of_decide_eq_true (by kernel_rfl)) t0 bel lt0) (trodAll_cons_mk (Below.trod laidOut (by kernel_rfl) (of_decide_eq_true (by kernel_rfl)) t1 bel lt1) trodAll_mk0)), rfl, bel.frame _, fun h => by cases h⟩

theorem over : Rows.topReplayRow.holds Try.pinned (OpenSpec.ofChange Rows.topReplaySpec) :=
  OpenClaim.holds_of_wide 7 Try.f7 rfl rfl rfl rfl rfl rfl rfl ⟨rfl, rfl, rfl, rfl, rfl⟩ rfl rfl rfl rfl rfl (by kernel_rfl) Try.func7 (by kernel_rfl)
    (of_decide_eq_true (by kernel_rfl)) (by unfold Func.isWrapper; first | (rw [if_pos (by decide +kernel)]; kernel_rfl) | (rw [if_neg (by decide +kernel)]; exact ⟨rfl, rfl⟩))
    (fun os started H enc _ => lifted os started H enc)

theorem proved : Rows.TopReplaySaid := over
#print axioms proved
end Go.Proofs.Ytjddahidkodieaa.LTopReplay
