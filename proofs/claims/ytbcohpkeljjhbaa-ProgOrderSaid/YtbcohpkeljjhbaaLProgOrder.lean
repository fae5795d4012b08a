/- 'deadheatkeep.ProgOrder' returns true for every input and leaves its arguments as they are. No condition. -/
import Derived.Test.YtbcohpkeljjhbaaKeepPg
import Derived.Test.YtbcohpkeljjhbaaOpenInts
import Derived.Test.YtbcohpkeljjhbaaKeepTw
import Derived.Test.YtbcohpkeljjhbaaRpR
import Derived.Test.YtbcohpkeljjhbaaPg
import Derived.Test.YtbcohpkeljjhbaaFo
import Derived.Deep.DeepCutAuto
import Derived.Deep.CutBlock
set_option linter.all false
set_option maxRecDepth 100000
namespace Go.Proofs.Ytbcohpkeljjhbaa.LProgOrder
open Go Go.ChangeShapes Go.WideShapes Go.ChangeAt Go.RowKit

/-- How far each thread is known to be. -/
def atC (f : Nat → Nat) : Array Value := clk fun t => (f t : Int)
theorem atC_get (f : Nat → Nat) {t : Nat} (h : t < 6) : (atC f)[t]? = some (.int .i64 (f t)) := clk_get _ t h
theorem atC_set (f : Nat → Nat) {t : Nat} (h : t < 6) (v : Nat) : (atC f).setIfInBounds t (.int .i64 (v : Nat)) = atC (upF f t v) := by
  unfold atC
  rw [clk_set _ t h]
  exact clk_congr fun j _ => by unfold upd upF; split <;> rfl
theorem upF_up {f : Nat → Nat} {t u v : Nat} : upF (upF f t u) t v = upF f t v := by funext j; unfold upF; split <;> rfl
theorem repE_a (P : List (List Ev)) (r : Rp) (x : Ev) {t : Nat} (h : x.t = (t : Int)) : (repE P r x).a = upF r.a t (r.a t + skN x ((opsP P t).drop (r.a t)) + 1) := by
  show upF r.a x.t.toNat _ = _
  rw [h, Int.toNat_natCast]
theorem mtch_no {x o : Ev} (h : mtch x o = false) : kOf o.k ≠ x.k ∨ o.t ≠ x.o := by
  unfold mtch at h
  rw [Bool.and_eq_false_iff] at h
  exact h.imp of_decide_eq_false of_decide_eq_false
theorem mtch_yes {x o : Ev} (h : mtch x o = true) : kOf o.k = x.k ∧ o.t = x.o := by
  unfold mtch at h
  simpa using h
set_option maxHeartbeats 16000000 in
theorem walkH (HR : RunC) (W : World) (A : Option Addr) (n c : Nat) (l : List (List Ev)) (s : Prg W A n l) (m : n ≤ c) (x : c ≤ maxLen) (_g : ∀ ops ∈ l, ∀ e ∈ ops, EvOk e)
    (B : Option Addr) (k d : Nat) (q : List Int) (s1 : SI W B k q) (m1 : k ≤ d) (x1 : d ≤ maxLen) (_g1 : ∀ x ∈ q, In64 x) :
    Calls Try.prog 7 #[.slice A n c, .slice B k d] W fun e w' => e = .returned (.bool true) ∧ Below W.heap.size W w' := by
  have HL := Lib.hid s
  have HS := Lib.hid s1
  have HM := Lib.hid (And.intro (And.intro m x) (And.intro m1 x1))
  have HRN := Lib.hid (fun w => ran_any HR w)
  unfold RunC at HR
  have H1 := Lib.hid HR
  clear s m x s1 m1 x1 HR
  go_enter Try.func7, Try.ntmps7
  go_wp2_with fail
  refine (HRN.out W).mono ?_
  rintro e0 w0 ⟨rfl, hb0⟩
  have HW0 := Lib.hid (Bel.of hb0)
  clear hb0
  go_wp2_with fail
  refine (H1.out A n c l B k d q w0 (HL.out.bel HW0.out) HM.out.1.1 HM.out.1.2 (HS.out.keep HW0.out) HM.out.2.1 HM.out.2.2).mono ?_
  rintro e1 w1 ⟨v1, y1, l1, c1, rfl, hB1, ho1, hb1⟩
  have HV := Lib.hid (EnV.run hB1)
  obtain ⟨A1, d1, rfl, hs1, hn1, hm1⟩ := Sl.own ho1
  have HE1 := Lib.hid ((HW0.out.call hb1).trans (enw_bel w1 y1))
  have HS1 := Lib.hid (And.intro (hs1.bel (enw_bel w1 y1).out) (And.intro hn1 hm1))
  clear hb1 ho1 hs1 hn1 hm1
  rcases runB_cases hB1 with ⟨hc1, rfl, rfl⟩ | ⟨rfl, hok, h100, rfl, rfl⟩
  · have h9 : (c1 != 0) = true := by simpa using hc1
    clear hc1 hB1
    go_wp2_with (refine enw_store HV.out.ty _ _ rfl rfl HV.out.size HV.out.one rfl rfl rfl ?_)
    go_ret
    exact ⟨rfl, HE1.out.out⟩
  · have HMT := Lib.hid (mat_run hok q)
    have HOK := Lib.hid hok
    have h6 : n ≤ 6 := by rw [← HL.out.1]; exact hok.six
    have HLN := Lib.hid HL.out.1
    have HLB := Lib.hid (show (runP l q).L.length ≤ 900 by have := (picks_len l q ps0).1; have h0 : ps0.L.length = 0 := rfl; unfold runP; omega)
    clear hok hB1 h100
    have HE1' := Lib.hid (show Bel W (enw w1 (endP l (runP l q))) from HE1.out)
    go_upto_region 6 with (refine enw_store HV.out.ty _ _ rfl rfl HV.out.size HV.out.one rfl rfl rfl ?_)
    clear HE1
    generalize enw w1 (endP l (runP l q)) = wB at *
    have hmm := @run_makeMap Try.prog
    obtain ⟨U0', U1, U2, U3, U4, U5, U6, U7⟩ := kup wB
    unfold KUp at U0' U1 U2 U3 U4 U5 U6 U7
    have U0 : (Instr.mapUpdate 43 (.map (some wB.heap.size)) (.int .i64 1) (.int .i64 1)).run Try.prog (wB.alloc (.map #[] 0)) = .ok () (wB.alloc (.map (kEt 1) 1)) := U0'
    clear U0'
    go_upto_region 7 with fail
    have HB3 := Lib.hid ((Bel.refl wB).alloc (.map (kEt 8) 8))
    have HK3 := Lib.hid (show (wB.alloc (.map (kEt 8) 8)).heap[wB.heap.size]? = some (.map (kEt 8) 8) from heap_alloc_new wB _)
    clear U0 U1 U2 U3 U4 U5 U6 U7 hmm
    generalize wB.alloc (.map (kEt 8) 8) = w3 at *
    have HMB := Lib.hid (show wB.heap.size ≤ wB.heap.size from Nat.le_refl _)
    generalize hmm : wB.heap.size = MM at *
    have HMB := Lib.hid (show wB.heap.size = MM from hmm)
    clear hmm
    have HX3 := Lib.hid (Box.new w3 (atC fun _ => 0) 26)
    have HB4 := Lib.hid ((Bel.refl w3).alloc (.cells (atC fun _ => 0) 26))
    go_upto_region 8 with fail
    change Code.wp _ _ _ _ (w3.alloc (.cells (atC fun _ => 0) 26))
    generalize hl1 : (runP l q).L = l1 at *
    have HK4 := Lib.hid (show (w3.alloc (.cells (atC fun _ => 0) 26)).heap[MM]? = some (.map (kEt 8) 8) from (HB4.out.out.block MM (by have := (Array.getElem?_eq_some_iff.1 HK3.out).1; exact this)).trans HK3.out)
    have HNE := Lib.hid (show MM < w3.heap.size from (Array.getElem?_eq_some_iff.1 HK3.out).1)
    generalize w3.alloc (.cells (atC fun _ => 0) 26) = w4 at *
    generalize w3.heap.size = T at *
    go_wp2
    go_loopw [28] (fun t wr => ∃ i : Nat, i ≤ l1.length ∧ t = .int .i64 i ∧ Box wr T (atC (repL l (l1.take i)).a) 26 ∧ Bel wB wr ∧ wr.heap[MM]? = some (.map (kEt 8) 8)) (fun t _ => l1.length - (intOf t).toNat)
    case atStart => exact ⟨0, by omega, rfl, HX3.out, HB3.out.trans HB4.out, HK4.out⟩
    case round =>
      obtain ⟨i, hi, rfl, hbx, hbr, hmp⟩ := hrel
      have HBX := Lib.hid hbx
      have HBR := Lib.hid hbr
      have HMP := Lib.hid hmp
      clear hbx hbr hmp HX3 HK4
      have hln := HLB.out
      by_cases hlt : i < l1.length
      · obtain ⟨bb, oo, e, rfl, hbb, he, hrg⟩ := (HS1.out.1.bel HBR.out.out).at_ hlt
        have hlt' : (i : Int) < l1.length := by omega
        have HLT := Lib.hid hlt
        have hid1 : (i : Int) ≤ d1 := by have := HS1.out.2.1; omega
        have hR := Lib.hid hrg
        obtain ⟨t, nn, o, hxt, htn, hoo, hmo, hsk, hno⟩ := mat_sk (HMT.out i e (by rw [hl1]; exact he))
        rw [hl1] at hoo hsk hno
        have HRE := Lib.hid (show (repL l (l1.take (i + 1))).a = upF (repL l (l1.take i)).a t ((repL l (l1.take i)).a t + nn + 1) by rw [take_snoc he, repL_snoc, repE_a _ _ _ hxt, hsk])
        have HOO := Lib.hid hoo
        have HMO := Lib.hid (mtch_yes hmo)
        have HNO := Lib.hid (fun j y hj hy => mtch_no (hno j y hj hy))
        have HXT := Lib.hid hxt
        rw [HLN.out] at htn
        have ht6 : t < 6 := by omega
        have ht6' : (t : Int) < 6 := by omega
        have htn' : ¬ (n : Int) ≤ t := by omega
        have htn2 : (t : Int) < n := by omega
        have htc : (t : Int) ≤ c := by have := HM.out.1.1; omega
        have HBE := Lib.hid (Bel.of (ewld_below wr e 35))
        have HXE := Lib.hid (ewld_box wr e 35)
        have HB5 := Lib.hid (HBR.out.trans HBE.out)
        have HX5 := Lib.hid (HBE.out.box HBX.out)
        have HM5 := Lib.hid (show (ewld wr e 35).heap[MM]? = some (.map (kEt 8) 8) from (HBE.out.out.block MM (Array.getElem?_eq_some_iff.1 HMP.out).1).trans HMP.out)
        have HXT' := Lib.hid (show T ≠ wr.heap.size by have := HBX.out.lt; omega)
        clear hrg he hbb hoo hmo hsk hno
        go_upto_region 11 with (first | (refine load_ev T36 _ rfl rfl rfl hR.out ?_) | (refine ewld_store T36 _ _ rfl rfl _ rfl rfl rfl ?_))
        generalize ewld wr e 35 = w5 at *
        generalize wr.heap.size = X at *
        generalize (repL l (l1.take i)).a = at0 at *
        obtain ⟨b2, off2, B2, m2, d2, rfl, hb2, hc2', hsl2, hm2, hd2⟩ := (HL.out.bel HE1'.out).at_ htn
        have hc2 := HB5.out.cell hc2'
        clear hc2'
        have e1 := (HXE.out.cell 1 (v := .int .i64 e.t) rfl).trans (show _ = some (Value.int .i64 (t : Int)) by rw [hxt])
        have HSL := Lib.hid hsl2
        have HMD := Lib.hid (And.intro hm2 hd2)
        have h12 := HOK.out.len t
        have HLE := Lib.hid (show m2 ≤ 12 by rw [← hsl2.1]; exact h12)
        have HAN := Lib.hid (show at0 t + nn < m2 by rw [← hsl2.1]; exact (List.getElem?_eq_some_iff.1 HOO.out).1)
        clear hxt hsl2 hm2 hd2 h12
        go_wp2
        generalize hws : wr = wS at *
        clear hws
        go_loopw [] (fun wr => ∃ j : Nat, j ≤ nn ∧ Box wr T (atC (upF at0 t (at0 t + j))) 26 ∧ Bel wB wr ∧ Box wr X (evv e) 35 ∧ wr.heap[MM]? = some (.map (kEt 8) 8)) (fun wr => at0 t + nn - (intOf ((wr.cell? ⟨T, t, none⟩).getD undef)).toNat)
        case atStart => exact ⟨0, Nat.zero_le _, by rw [show upF at0 t (at0 t + 0) = at0 by funext z; unfold upF; split <;> simp_all]; exact HX5.out, HB5.out, HXE.out, HM5.out⟩
        case round =>
          obtain ⟨j, hj, hbx, hbi, hbe, hmp⟩ := hrel
          obtain ⟨bb3, oo3, y, rfl, hbb3, hy, hrg3⟩ := (HSL.out.bel hbi.out).at_ (show at0 t + j < m2 by have := HAN.out; omega)
          have hj1 : ((at0 t + j : Nat) : Int) < m2 := by have := HAN.out; omega
          have hjd : ((at0 t + j : Nat) : Int) ≤ d2 := by have := HMD.out; omega
          have ct := (hbx.cell t (atC_get _ ht6)).trans (show _ = some (Value.int .i64 ((at0 t + j : Nat) : Int)) by rw [upF_at])
          have cx0 := hbe.cell 0 (v := .int .i64 e.k) rfl
          have cx1 := (hbe.cell 1 (v := .int .i64 e.t) rfl).trans (show _ = some (Value.int .i64 (t : Int)) by rw [HXT.out])
          have cx2 := hbe.cell 2 (v := .int .i64 e.o) rfl
          have cy0 := hrg3 0 (.int .i64 y.k) rfl
          have cy1 := hrg3 1 (.int .i64 y.t) rfl
          have hkb := isOp_obj (HOK.out.op t y (List.mem_of_getElem? hy))
          have HLKx := Lib.hid (fun (w9 : World) (h9 : Bel wr w9) => klook w9 MM ((h9.out.block MM (Array.getElem?_eq_some_iff.1 hmp).1).trans hmp) hkb.1 hkb.2.1)
          have hw12 : IntKind.i64.wrap (((at0 t + j : Nat) : Int) + 1) = ((at0 t + j : Nat) : Int) + 1 := IntWalk.i64_in _ (by have := HLE.out; have := HAN.out; omega)
          have HY := Lib.hid hy
          have HBI := Lib.hid hbi
          have HBXX := Lib.hid hbx
          have HBEE := Lib.hid hbe
          have HMPP := Lib.hid hmp
          have HJ := Lib.hid hj
          have HPP := Lib.hid (show at0 t + j = at0 t + j from rfl)
          generalize hp : at0 t + j = p at *
          have F := fun (w9 : World) (h9 : Bel wr w9) => And.intro (h9.cell ct) (And.intro (h9.cell cx0) (And.intro (h9.cell cx1) (And.intro (h9.cell cx2) (And.intro (show w9.cell? ⟨bb3, oo3 + p * 3, none⟩ = some (.int .i64 y.k) from h9.cell cy0) (And.intro (show w9.cell? ⟨bb3, oo3 + p * 3 + 1, none⟩ = some (.int .i64 y.t) from h9.cell cy1) (HLKx.out w9 h9))))))
          have HF := Lib.hid F
          have HP := Lib.hid hp
          clear F ct cx0 cx1 cx2 cy0 cy1 hrg3 hy hbi hbx hbe hmp hj hkb hp HXE HX5 HM5 hbb3
          cases k1 : (kOf y.k != e.k)
          · cases k2 : (y.t != e.o)
            · have HJN := Lib.hid (show j = nn by
                rcases Nat.lt_or_ge j nn with h | h
                · exfalso
                  rcases HNO.out j y h (by rw [HP.out]; exact HY.out) with g | g
                  · exact g (by simpa using k1)
                  · exact g (by simpa using k2)
                · have := HJ.out; omega)
              have hpm : ((p : Int) == (m2 : Int)) = false := by simp; omega
              go_wp2_with fail
              (refine region_bel (by kernel_rfl) (by kernel_rfl) ?_; (repeat (first | ((with_reducible refine BigFrame.wpQuiet_skip ?_ ?_); exact rfl; simp only [Act.put, Act.eval, List.setIfInBounds_toArray, List.set_cons_zero, List.set_cons_succ, Array.getD_eq_getD_getElem?, List.getElem?_toArray, List.getElem?_cons_zero, List.getElem?_cons_succ, Option.getD_some]) | (refine q_move _ rfl rfl ?_; simp only [Act.put, Act.eval, List.setIfInBounds_toArray, List.set_cons_zero, List.set_cons_succ, Array.getD_eq_getD_getElem?, List.getElem?_toArray, List.getElem?_cons_zero, List.getElem?_cons_succ, Option.getD_some]) | (refine q_assign _ rfl rfl ?_; simp only [Act.put, Act.eval, List.setIfInBounds_toArray, List.set_cons_zero, List.set_cons_succ, Array.getD_eq_getD_getElem?, List.getElem?_toArray, List.getElem?_cons_zero, List.getElem?_cons_succ, Option.getD_some]) | (refine q_any rfl ?_; apply Exists.intro; refine ⟨fun w hw => ?_, ?_⟩; (have fct0 := HF.out w hw; go_simp; first | exact ⟨rfl, rfl⟩ | rfl); simp only [Act.put, Act.eval, List.setIfInBounds_toArray, List.set_cons_zero, List.set_cons_succ, Array.getD_eq_getD_getElem?, List.getElem?_toArray, List.getElem?_cons_zero, List.getElem?_cons_succ, Option.getD_some]))); refine wpQuiet_nil ?_; intro w2 hw2)
              obtain ⟨ct, cx0, cx1, cx2, _, _, _⟩ := HF.out w2 hw2
              have HX2 := Lib.hid (hw2.box HBXX.out)
              have zt := HX2.out.frozen t
              have HB2 := Lib.hid (HBI.out.trans hw2)
              have HM2 := Lib.hid (show w2.heap[MM]? = some (.map (kEt 8) 8) from (hw2.out.block MM (Array.getElem?_eq_some_iff.1 HMPP.out).1).trans HMPP.out)
              clear hw2 HMPP
              go_wp2
              rw [show (p : Int) + 1 = ((p + 1 : Nat) : Int) by omega]
              have HX3 := Lib.hid (show Box (w2.setCell ⟨T, t, none⟩ (.int .i64 ((p + 1 : Nat) : Int))) T (atC (upF at0 t (p + 1))) 26 by have h := HX2.out.set t (.int .i64 ((p + 1 : Nat) : Int)); rw [atC_set _ ht6, upF_up] at h; exact h)
              have HTB := Lib.hid (show wB.heap.size ≤ T from by have := HNE.out; have := HMB.out; omega)
              go_roundw
              case rel => exact ⟨i + 1, HLT.out, by go_num, by rw [HRE.out, show at0 t + nn + 1 = p + 1 by have := HP.out; have := HJN.out; omega]; exact HX3.out, HB2.out.setCell ⟨T, t, none⟩ HTB.out _, (heap_setCell_other w2 ⟨T, t, none⟩ MM _ (by have := HNE.out; dsimp only; omega)).trans HM2.out⟩
              case measure => have := HLT.out; simp [intOf]; omega
            · have HJN := Lib.hid (show j < nn by
                rcases Nat.lt_or_ge j nn with h | h
                · exact h
                · exfalso
                  have hjn : j = nn := by have := HJ.out; omega
                  have := HY.out
                  rw [← HP.out, hjn, HOO.out] at this
                  cases this
                  exact absurd HMO.out.2 (by simpa using k2))
              skip
              go_wp2_with fail
              (refine region_bel (by kernel_rfl) (by kernel_rfl) ?_; (repeat (first | ((with_reducible refine BigFrame.wpQuiet_skip ?_ ?_); exact rfl; simp only [Act.put, Act.eval, List.setIfInBounds_toArray, List.set_cons_zero, List.set_cons_succ, Array.getD_eq_getD_getElem?, List.getElem?_toArray, List.getElem?_cons_zero, List.getElem?_cons_succ, Option.getD_some]) | (refine q_move _ rfl rfl ?_; simp only [Act.put, Act.eval, List.setIfInBounds_toArray, List.set_cons_zero, List.set_cons_succ, Array.getD_eq_getD_getElem?, List.getElem?_toArray, List.getElem?_cons_zero, List.getElem?_cons_succ, Option.getD_some]) | (refine q_assign _ rfl rfl ?_; simp only [Act.put, Act.eval, List.setIfInBounds_toArray, List.set_cons_zero, List.set_cons_succ, Array.getD_eq_getD_getElem?, List.getElem?_toArray, List.getElem?_cons_zero, List.getElem?_cons_succ, Option.getD_some]) | (refine q_any rfl ?_; apply Exists.intro; refine ⟨fun w hw => ?_, ?_⟩; (have fct0 := HF.out w hw; go_simp; first | exact ⟨rfl, rfl⟩ | rfl); simp only [Act.put, Act.eval, List.setIfInBounds_toArray, List.set_cons_zero, List.set_cons_succ, Array.getD_eq_getD_getElem?, List.getElem?_toArray, List.getElem?_cons_zero, List.getElem?_cons_succ, Option.getD_some]))); refine wpQuiet_nil ?_; intro w2 hw2)
              obtain ⟨ct, cx0, cx1, cx2, _, _, _⟩ := HF.out w2 hw2
              have HX2 := Lib.hid (hw2.box HBXX.out)
              have zt := HX2.out.frozen t
              have HE2 := Lib.hid (hw2.box HBEE.out)
              have HB2 := Lib.hid (HBI.out.trans hw2)
              have HM2 := Lib.hid (show w2.heap[MM]? = some (.map (kEt 8) 8) from (hw2.out.block MM (Array.getElem?_eq_some_iff.1 HMPP.out).1).trans HMPP.out)
              clear hw2 HMPP
              go_wp2
              rw [show (p : Int) + 1 = ((p + 1 : Nat) : Int) by omega]
              have HX3 := Lib.hid (show Box (w2.setCell ⟨T, t, none⟩ (.int .i64 ((p + 1 : Nat) : Int))) T (atC (upF at0 t (p + 1))) 26 by have h := HX2.out.set t (.int .i64 ((p + 1 : Nat) : Int)); rw [atC_set _ ht6, upF_up] at h; exact h)
              have HTB := Lib.hid (show wB.heap.size ≤ T from by have := HNE.out; have := HMB.out; omega)
              go_roundw
              case rel => exact ⟨j + 1, HJN.out, by rw [show at0 t + (j + 1) = p + 1 by have := HP.out; omega]; exact HX3.out, HB2.out.setCell ⟨T, t, none⟩ HTB.out _, HE2.out.set_ne ⟨T, t, none⟩ _ (Ne.symm HXT'.out), (heap_setCell_other w2 ⟨T, t, none⟩ MM _ (by have := HNE.out; dsimp only; omega)).trans HM2.out⟩
              case measure => rw [HX3.out.cell t (atC_get _ ht6), HBXX.out.cell t (atC_get _ ht6)]; simp [intOf, upF_at]; have := HJN.out; have := HP.out; omega
          · have HJN := Lib.hid (show j < nn by
              rcases Nat.lt_or_ge j nn with h | h
              · exact h
              · exfalso
                have hjn : j = nn := by have := HJ.out; omega
                have := HY.out
                rw [← HP.out, hjn, HOO.out] at this
                cases this
                exact absurd HMO.out.1 (by simpa using k1))
            skip
            go_wp2_with fail
            (refine region_bel (by kernel_rfl) (by kernel_rfl) ?_; (repeat (first | ((with_reducible refine BigFrame.wpQuiet_skip ?_ ?_); exact rfl; simp only [Act.put, Act.eval, List.setIfInBounds_toArray, List.set_cons_zero, List.set_cons_succ, Array.getD_eq_getD_getElem?, List.getElem?_toArray, List.getElem?_cons_zero, List.getElem?_cons_succ, Option.getD_some]) | (refine q_move _ rfl rfl ?_; simp only [Act.put, Act.eval, List.setIfInBounds_toArray, List.set_cons_zero, List.set_cons_succ, Array.getD_eq_getD_getElem?, List.getElem?_toArray, List.getElem?_cons_zero, List.getElem?_cons_succ, Option.getD_some]) | (refine q_assign _ rfl rfl ?_; simp only [Act.put, Act.eval, List.setIfInBounds_toArray, List.set_cons_zero, List.set_cons_succ, Array.getD_eq_getD_getElem?, List.getElem?_toArray, List.getElem?_cons_zero, List.getElem?_cons_succ, Option.getD_some]) | (refine q_any rfl ?_; apply Exists.intro; refine ⟨fun w hw => ?_, ?_⟩; (have fct0 := HF.out w hw; go_simp; first | exact ⟨rfl, rfl⟩ | rfl); simp only [Act.put, Act.eval, List.setIfInBounds_toArray, List.set_cons_zero, List.set_cons_succ, Array.getD_eq_getD_getElem?, List.getElem?_toArray, List.getElem?_cons_zero, List.getElem?_cons_succ, Option.getD_some]))); refine wpQuiet_nil ?_; intro w2 hw2)
            obtain ⟨ct, cx0, cx1, cx2, _, _, _⟩ := HF.out w2 hw2
            have HX2 := Lib.hid (hw2.box HBXX.out)
            have zt := HX2.out.frozen t
            have HE2 := Lib.hid (hw2.box HBEE.out)
            have HB2 := Lib.hid (HBI.out.trans hw2)
            have HM2 := Lib.hid (show w2.heap[MM]? = some (.map (kEt 8) 8) from (hw2.out.block MM (Array.getElem?_eq_some_iff.1 HMPP.out).1).trans HMPP.out)
            clear hw2 HMPP
            go_wp2
            rw [show (p : Int) + 1 = ((p + 1 : Nat) : Int) by omega]
            have HX3 := Lib.hid (show Box (w2.setCell ⟨T, t, none⟩ (.int .i64 ((p + 1 : Nat) : Int))) T (atC (upF at0 t (p + 1))) 26 by have h := HX2.out.set t (.int .i64 ((p + 1 : Nat) : Int)); rw [atC_set _ ht6, upF_up] at h; exact h)
            have HTB := Lib.hid (show wB.heap.size ≤ T from by have := HNE.out; have := HMB.out; omega)
            go_roundw
            case rel => exact ⟨j + 1, HJN.out, by rw [show at0 t + (j + 1) = p + 1 by have := HP.out; omega]; exact HX3.out, HB2.out.setCell ⟨T, t, none⟩ HTB.out _, HE2.out.set_ne ⟨T, t, none⟩ _ (Ne.symm HXT'.out), (heap_setCell_other w2 ⟨T, t, none⟩ MM _ (by have := HNE.out; dsimp only; omega)).trans HM2.out⟩
            case measure => rw [HX3.out.cell t (atC_get _ ht6), HBXX.out.cell t (atC_get _ ht6)]; simp [intOf, upF_at]; have := HJN.out; have := HP.out; omega
      · obtain rfl : i = l1.length := by omega
        go_wp2
        go_ret
        exact ⟨rfl, (HE1'.out.trans HBR.out).out⟩
set_option maxRecDepth 100000 in
theorem lifted (os : Os) (started : os.Started) (H : Type) (enc : TypeId × Value → H) :
    ReturnsInHanded {} Try.checked os 7 .any (Rows.progOrderSpec.pre6 enc Try.prog Try.f7 Rows.progOrderRow.domain false) (Rows.progOrderSpec.post enc Try.prog Try.f7 false true false false) := by
  refine returnsInHanded_of_change_sized (C := Try.checked) own started (by kernel_rfl) Try.func7
    (ChangeSpec.witness6 (enc := enc) (C := Try.checked) false ⟨#[], #[.slice none 0 0, .slice none 0 0], []⟩ 8 (by kernel_rfl) (by kernel_rfl) (by kernel_rfl) (by kernel_rfl)) ?_
  intro W base args ds gs before hval0 hW hcnd hsz0 _
  have hsz : (DataW.weightsEach Try.prog (Try.f7.params.toList ++ Rows.progOrderSpec.plain.varTypes Try.prog) (ds ++ gs)).all (· ≤ reachBytes) = true := hsz0
  clear hsz0
  have hval : ∀ (j : Nat) t v, Try.f7.params[j]? = some t → args[j]? = some v → Value.okWide Try.prog W .any base t v := hval0
  have hW' := hW
  obtain ⟨p, q, hA0, hV, rfl, hfz, hnd⟩ := hW
  have hA : DataW.TrodAll enc Try.prog W 0 (fun _ => true) true Try.f7.params.toList args.toList ds p := hA0
  rw [Try.params7] at hA hval hsz
  obtain ⟨v0, vs0, d0, ds0, p0, q0, hargs, rfl, rfl, h0, r0⟩ := trodAll_cons hA
  obtain ⟨v1, vs1, d1, ds1, p1, q1, rfl, rfl, rfl, h1, r1⟩ := trodAll_cons r0
  obtain ⟨rfl, rfl, rfl⟩ := trodAll_nil r1
  obtain rfl : args = #[v0, v1] := by cases args; simp_all
  obtain ⟨rfl, rfl⟩ := trodVars_none hV
  have t0 := h0
  have lt0 : ∀ x ∈ p0, x.block < W.heap.size := by obtain ⟨m, hm⟩ := t0; exact DataW.trod_lt m _ _ _ hm
  have t1 := h1
  have lt1 : ∀ x ∈ p1, x.block < W.heap.size := by obtain ⟨m, hm⟩ := t1; exact DataW.trod_lt m _ _ _ hm
  obtain ⟨A0, n0, c0, l0, rfl, s0, m0, x0, g0⟩ := open_ops Try.underlying22 (by kernel_rfl) Try.underlying44 Try.underlying46 ⟨rfl, rfl, rfl⟩ (by kernel_rfl) (by kernel_rfl) Try.underlying3 (hval 0 22 v0 rfl rfl) h0
  obtain ⟨A1, n1, c1, l1, rfl, s1, m1, x1, g1⟩ := open_ints_arg Try.underlying23 Try.underlying3 (by kernel_rfl) (hval 1 23 v1 rfl rfl) h1
  clear hA0 hval0
  refine (walkH pgrun_c W A0 n0 c0 l0 s0 m0 x0 g0 A1 n1 c1 l1 s1 m1 x1 g1).mono fun e W' ⟨he, bel⟩ => ?_
  subst he
  exact ⟨_, rfl, _, _, _, [], _, [], hW', trodAll_mk1 (shut_bool Try.underlying4 _), (trodAll_cons_mk (Below.trod laidOut (by kernel_rfl) (of_decide_eq_true (by kernel_rfl)) t0 bel lt0) (trodAll_cons_mk (Below.trod laidOut (by kernel_rfl) (of_decide_eq_true (by kernel_rfl)) t1 bel lt1) trodAll_mk0)), rfl, bel.frame _, fun h => by cases h⟩

theorem over : Rows.progOrderRow.holds Try.pinned (OpenSpec.ofChange Rows.progOrderSpec) :=
  OpenClaim.holds_of_wide 7 Try.f7 rfl rfl rfl rfl rfl rfl rfl ⟨rfl, rfl, rfl, rfl, rfl⟩ rfl rfl rfl rfl rfl (by kernel_rfl) Try.func7 (by kernel_rfl)
    (of_decide_eq_true (by kernel_rfl)) (by unfold Func.isWrapper; first | (rw [if_pos (by decide +kernel)]; kernel_rfl) | (rw [if_neg (by decide +kernel)]; exact ⟨rfl, rfl⟩))
    (fun os started H enc _ => lifted os started H enc)

theorem proved : Rows.ProgOrderSaid := over
#print axioms proved
end Go.Proofs.Ytbcohpkeljjhbaa.LProgOrder
