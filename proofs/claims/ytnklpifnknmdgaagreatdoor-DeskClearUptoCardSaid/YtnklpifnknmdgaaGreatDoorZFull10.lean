import Derived.Deep.DeepCutAuto
import Derived.Test.YtnklpifnknmdgaaGreatDoorZAc
import Derived.Test.YtnklpifnknmdgaaGreatDoorZGu
set_option linter.all false
set_option maxRecDepth 100000
namespace Go.Proofs.YtnklpifnknmdgaaGreatDoor
open Go Go.RowKit

theorem gV_acc1 {l : List Ev} {k t o n : Nat} (hk : kZ l k = 1) (ho : oZ l k = o) (ht : tZ l k = t) (hn : n = (djTo l k).C t t) : gV (upd2 (rwF l 1 k) o t n) (rwF l 2 k) = gV (rwF l 1 (k + 1)) (rwF l 2 (k + 1)) := by
  rw [rwF_yes hk ho ht hn, rwF_no (q := 2) (by omega)]
theorem gV_acc2 {l : List Ev} {k t o n : Nat} (hk : kZ l k = 2) (ho : oZ l k = o) (ht : tZ l k = t) (hn : n = (djTo l k).C t t) : gV (rwF l 1 k) (upd2 (rwF l 2 k) o t n) = gV (rwF l 1 (k + 1)) (rwF l 2 (k + 1)) := by
  rw [rwF_yes hk ho ht hn, rwF_no (q := 1) (by omega)]
theorem zv96 (w : World) : (zeroValue 189).run Tryz.prog w = .ok (.agg (ns 96 fun _ => 0)) w := by kernel_rfl
set_option maxHeartbeats 16000000 in
theorem detect_any (A : Option Addr) (n c : Nat) (l : List Ev) (w : World) (hl : Sl w A n l) : Calls Tryz.prog 139 #[.slice A n c] w (DetPost w l) := by
  obtain ⟨b1, b2, hB, hs⟩ := boxes2 w (ns 96 fun _ => 0) (ns 96 fun _ => 0) 189 189
  obtain ⟨i0, hi0, hz0, hz1, hz2⟩ := info_parts fl_info
  have J := Lib.hid (And.intro hi0 (And.intro hz0 (And.intro hz1 hz2)))
  have HL := Lib.hid hl
  have HB := Lib.hid hB
  have HB1 := Lib.hid b1
  have HB2 := Lib.hid b2
  clear hi0 hz0 hz1 hz2 hl hs hB b1 b2
  go_enter Tryz.func139, Tryz.ntmps139
  have ZV := zv96
  go_wp2_with fail
  clear ZV
  change Calls _ _ _ ((w.alloc (.cells (ns 96 fun _ => 0) 189)).alloc (.cells (ns 96 fun _ => 0) 189)) _
  generalize ((w.alloc (.cells (ns 96 fun _ => 0) 189)).alloc (.cells (ns 96 fun _ => 0) 189)) = W at *
  refine (acc_any A n c l _ (HL.out.bel (Bel.of HB.out))).mono ?_
  rintro e w1 ⟨va, rfl, hown, hb⟩
  have HX1 := Lib.hid (Bel.of hb)
  have HWS := Lib.hid HB2.out.lt
  obtain ⟨A1, c1, rfl, hat⟩ := accs_own hown
  have HAT := Lib.hid hat
  have HNN := Lib.hid (show w.heap.size + 1 < w1.heap.size from by have h1 := HB2.out.lt; have h2 := HX1.out.size; omega)
  have H0 := Lib.hid (show DtR w w1 w1.heap.size (w.heap.size + 1) 189 (ns 96 fun _ => 0) (ns 96 (gV (rwF l 1 0) (rwF l 2 0))) (flT l 0) (.slice none 0 0) w1 from
    ⟨HX1.out.box HB1.out, HX1.out.box HB2.out, World.ownsRow_nil _ _ _ _, fun _ _ _ => rfl, ((Bel.of HB.out).trans HX1.out).out, Nat.le_refl _⟩)
  have HSM := Lib.hid (fun k k' (h : (acT l k).length = (acT l k').length) => show rwF l 1 k = rwF l 1 k' ∧ rwF l 2 k = rwF l 2 k' ∧ flT l k = flT l k' by
    have hs : ∀ {i k : Nat}, i ≤ k → (acT l i).length = (acT l k).length → rwF l 1 k = rwF l 1 i ∧ rwF l 2 k = rwF l 2 i ∧ flT l k = flT l i := fun hik he =>
      ⟨acT_same l (rwF l 1) (fun k hk => rwF_no (fun h => hk (by unfold isAc; exact decide_eq_true (.inl h)))) hik he, acT_same l (rwF l 2) (fun k hk => rwF_no (fun h => hk (by unfold isAc; exact decide_eq_true (.inr h)))) hik he,
        acT_same l (flT l) (fun k hk => flT_no (djK_none (fun h => hk (by unfold isAc; exact decide_eq_true (.inl h))) (fun h => hk (by unfold isAc; exact decide_eq_true (.inr h))))) hik he⟩
    rcases Nat.le_total k k' with hk | hk
    · obtain ⟨h1, h2, h3⟩ := hs hk h; exact ⟨h1.symm, h2.symm, h3.symm⟩
    · exact hs hk h.symm)
  have HWW := Lib.hid (show w.heap.size + 1 < W.heap.size from HB2.out.lt)
  clear hown hb hat
  generalize hN : w1.heap.size = N at *
  have HN1 := Lib.hid hN
  clear hN
  generalize hm : (accs l).length = m at *
  have HM1 := Lib.hid hm
  have hm80 : m ≤ 80 := by
    by_cases h0 : may l = 0
    · rw [← hm, accs_ok h0]; exact Nat.le_trans (acT_len l _) ((may_iff l).1 h0).1
    · rw [← hm, accs_no h0]; exact Nat.zero_le _
  clear hm
  go_wp2
  go_loopw [5, 19] (fun v t19 wr => ∃ j k : Nat, k ≤ l.length ∧ (acT l k).length = j ∧ j ≤ m ∧ t19 = .int .i64 j ∧ DtR w w1 N (w.heap.size + 1) 189 (ns 96 fun _ => 0) (ns 96 (gV (rwF l 1 k) (rwF l 2 k))) (flT l k) v wr) (fun _ t19 _ => m - (intOf t19).toNat)
  case atStart => exact ⟨0, 0, Nat.zero_le _, rfl, Nat.zero_le _, rfl, H0.out⟩
  case round =>
    obtain ⟨j, k0, hk0, hkj0, hj, rfl, hr⟩ := hrel
    by_cases hlt : j < m
    · have hm : may l = 0 := Classical.byContradiction fun hm => by have := HM1.out; rw [accs_no hm] at this; simp at this; omega
      have hac : accs l = acT l l.length := accs_ok hm
      obtain ⟨k, hkl, hka, hkj, hget⟩ := acT_at l (j := j) (n := l.length) (by rw [← hac, HM1.out]; exact hlt)
      obtain ⟨g, rfl, hg1, hg2, hrg⟩ := HAT.out j k (by rw [hac]; exact hget)
      obtain ⟨hs1, hs2, hs3⟩ := HSM.out k0 k (by rw [hkj0, hkj])
      rw [hs1, hs2, hs3] at hr
      have hrg2 := rangeAt_heap (hr.keep g (by have := HWW.out; omega) hg2) hrg
      have hlt' : (j : Int) < m := by omega
      have hev := eZ_ok hm hkl
      have het := isEv_t hev
      have heo := isEv_o hev
      have hk12 : (eZ l k).k = 1 ∨ (eZ l k).k = 2 := of_decide_eq_true (show decide (kZ l k = 1 ∨ kZ l k = 2) = true from hka)
      have hcz : cZ l k = (djTo l k).C (tZ l k) := rfl
      have htz : tZ l k = (eZ l k).t.toNat := rfl
      have hoz : oZ l k = (eZ l k).o.toNat := rfl
      rw [hcz] at hrg2
      generalize heq : eZ l k = ev at *
      obtain ⟨ek, et, eo⟩ := ev
      dsimp only at het heo hk12 htz hoz
      obtain ⟨t, rfl⟩ := Int.eq_ofNat_of_zero_le het.1
      obtain ⟨o, rfl⟩ := Int.eq_ofNat_of_zero_le heo.1
      have htz' : tZ l k = t := by rw [htz]; rfl
      have hoz' : oZ l k = o := by rw [hoz]; rfl
      rw [htz'] at hrg2
      have ht6 : t < 6 := by have := het.2; omega
      have ho8 : o < 8 := by have h9 := heo.2; unfold nobj at h9; rw [if_pos hk12] at h9; omega
      have ho8' : (o : Int) < 8 := by omega
      have HEZ := Lib.hid heq
      have HTZ := Lib.hid htz'
      have HOZ := Lib.hid hoz'
      have HO8 := Lib.hid ho8
      have HKL := Lib.hid hkl
      have HK80 := Lib.hid (show k < 80 by have := ((may_iff l).1 hm).1; omega)
      have HKA := Lib.hid hka
      have HKJ := Lib.hid hkj
      have hR := Lib.hid hrg2
      have HX := Lib.hid (acld_box wr ⟨ek, t, o⟩ k ((djTo l k).C t) 230)
      have HDX := Lib.hid (hr.bel (acld_below wr ⟨ek, t, o⟩ k ((djTo l k).C t) 230))
      have HXN := Lib.hid (show w.heap.size + 1 < wr.heap.size from hr.vars.lt)
      clear H0 hr hs1 hs2 hs3 hm hac hget hg1 hg2 hrg hrg2 hev het heo htz hoz htz' hoz' hcz heq hkl hka hkj hk0 hkj0 ho8
      rcases hk12 with rfl | rfl
      · have HKZ := Lib.hid (show kZ l k = 1 by unfold kZ; rw [HEZ.out])
        have HKN := Lib.hid (show kndA 1 (rwF l 2 k o) (rwF l 1 k o) ((djTo l k).C t) = djK l k by
          have h9 := kndA_djK (l := l) (j := k) (by rw [HKZ.out]; simp)
          rw [HKZ.out, HOZ.out, HTZ.out] at h9
          exact h9)
        go_upto_region 7 with (first | (refine load_ac TAc _ rfl rfl rfl hR.out ?_) | (refine acld_store TAc _ _ rfl rfl _ rfl rfl rfl ?_))
        generalize hw3 : acld wr ⟨1, t, o⟩ k ((djTo l k).C t) 230 = w3 at *
        have F2 := fun (w' : World) (h : Bel w3 w') => (h.box HX.out).cell 2 (v := .int .i64 o) rfl
        have HLX := Lib.hid (fun (w' : World) (h : Bel w3 w') => h.box HX.out)
        clear hw3
        refine region_growT 5 (by kernel_rfl) ?_
        (repeat (first | ((first | refine wpT_goN 0 (by simp only [List.getElem?_toArray, List.getElem?_cons_zero, List.getElem?_cons_succ] <;> rfl) (by decide +kernel) (by decide +kernel) (by kernel_rfl) (by rfl) (by exact fun _ _ _ _ h => h) (Nat.le_refl _) ?_ | refine wpT_goN 1 (by simp only [List.getElem?_toArray, List.getElem?_cons_zero, List.getElem?_cons_succ] <;> rfl) (by decide +kernel) (by decide +kernel) (by kernel_rfl) (by rfl) (by exact fun _ _ _ _ h => h) (Nat.le_refl _) ?_ | refine wpT_goN 2 (by simp only [List.getElem?_toArray, List.getElem?_cons_zero, List.getElem?_cons_succ] <;> rfl) (by decide +kernel) (by decide +kernel) (by kernel_rfl) (by rfl) (by exact fun _ _ _ _ h => h) (Nat.le_refl _) ?_ | refine wpT_goN 3 (by simp only [List.getElem?_toArray, List.getElem?_cons_zero, List.getElem?_cons_succ] <;> rfl) (by decide +kernel) (by decide +kernel) (by kernel_rfl) (by rfl) (by exact fun _ _ _ _ h => h) (Nat.le_refl _) ?_ | refine wpT_goN 4 (by simp only [List.getElem?_toArray, List.getElem?_cons_zero, List.getElem?_cons_succ] <;> rfl) (by decide +kernel) (by decide +kernel) (by kernel_rfl) (by rfl) (by exact fun _ _ _ _ h => h) (Nat.le_refl _) ?_); apply Exists.intro; refine ⟨fun w1 h1 => ?_, ?_⟩; (first | exact g_move _ rfl | exact g_assign _ rfl | exact g_load _ _ rfl TAc rfl (HLX.out w1 h1) | (have fct0 := F2 w1 h1; go_simp; first | exact ⟨rfl, rfl⟩ | rfl)); simp only [Act.put, Act.eval, List.setIfInBounds_toArray, List.set_cons_zero, List.set_cons_succ, Array.getD_eq_getD_getElem?, List.getElem?_toArray, List.getElem?_cons_zero, List.getElem?_cons_succ, Option.getD_some]) | ((first | refine wpT_skip 0 (by simp only [List.getElem?_toArray, List.getElem?_cons_zero, List.getElem?_cons_succ] <;> rfl) (by decide +kernel) (by decide +kernel) (by kernel_rfl) (by rfl) (by exact fun _ _ _ _ h => h) (Nat.le_refl _) ?_ | refine wpT_skip 1 (by simp only [List.getElem?_toArray, List.getElem?_cons_zero, List.getElem?_cons_succ] <;> rfl) (by decide +kernel) (by decide +kernel) (by kernel_rfl) (by rfl) (by exact fun _ _ _ _ h => h) (Nat.le_refl _) ?_ | refine wpT_skip 2 (by simp only [List.getElem?_toArray, List.getElem?_cons_zero, List.getElem?_cons_succ] <;> rfl) (by decide +kernel) (by decide +kernel) (by kernel_rfl) (by rfl) (by exact fun _ _ _ _ h => h) (Nat.le_refl _) ?_ | refine wpT_skip 3 (by simp only [List.getElem?_toArray, List.getElem?_cons_zero, List.getElem?_cons_succ] <;> rfl) (by decide +kernel) (by decide +kernel) (by kernel_rfl) (by rfl) (by exact fun _ _ _ _ h => h) (Nat.le_refl _) ?_ | refine wpT_skip 4 (by simp only [List.getElem?_toArray, List.getElem?_cons_zero, List.getElem?_cons_succ] <;> rfl) (by decide +kernel) (by decide +kernel) (by kernel_rfl) (by rfl) (by exact fun _ _ _ _ h => h) (Nat.le_refl _) ?_); simp only [Act.put, Act.eval, List.setIfInBounds_toArray, List.set_cons_zero, List.set_cons_succ, Array.getD_eq_getD_getElem?, List.getElem?_toArray, List.getElem?_cons_zero, List.getElem?_cons_succ, Option.getD_some]) | ((first | refine wpT_goA 0 (by simp only [List.getElem?_toArray, List.getElem?_cons_zero, List.getElem?_cons_succ] <;> rfl) (by decide +kernel) (by decide +kernel) (by kernel_rfl) (by rfl) (by exact fun _ _ _ _ h => h) ?_ | refine wpT_goA 1 (by simp only [List.getElem?_toArray, List.getElem?_cons_zero, List.getElem?_cons_succ] <;> rfl) (by decide +kernel) (by decide +kernel) (by kernel_rfl) (by rfl) (by exact fun _ _ _ _ h => h) ?_ | refine wpT_goA 2 (by simp only [List.getElem?_toArray, List.getElem?_cons_zero, List.getElem?_cons_succ] <;> rfl) (by decide +kernel) (by decide +kernel) (by kernel_rfl) (by rfl) (by exact fun _ _ _ _ h => h) ?_ | refine wpT_goA 3 (by simp only [List.getElem?_toArray, List.getElem?_cons_zero, List.getElem?_cons_succ] <;> rfl) (by decide +kernel) (by decide +kernel) (by kernel_rfl) (by rfl) (by exact fun _ _ _ _ h => h) ?_ | refine wpT_goA 4 (by simp only [List.getElem?_toArray, List.getElem?_cons_zero, List.getElem?_cons_succ] <;> rfl) (by decide +kernel) (by decide +kernel) (by kernel_rfl) (by rfl) (by exact fun _ _ _ _ h => h) ?_); apply Exists.intro; refine ⟨fun w1 => ?_, ?_⟩; (first | exact a_move _ rfl | exact a_assign _ rfl | (go_simp; first | exact ⟨rfl, rfl⟩ | rfl)); simp only [Act.put, Act.eval, List.setIfInBounds_toArray, List.set_cons_zero, List.set_cons_succ, Array.getD_eq_getD_getElem?, List.getElem?_toArray, List.getElem?_cons_zero, List.getElem?_cons_succ, Option.getD_some])))
        refine wpT_then 6 (by decide +kernel) (by decide +kernel) (by decide +kernel) (by simp only [List.getElem?_toArray, List.getElem?_cons_zero, List.getElem?_cons_succ] <;> rfl) (by simp only [List.getElem?_toArray, List.getElem?_cons_zero, List.getElem?_cons_succ] <;> rfl) rfl ?_
        intro w5 hw5
        have HD5 := Lib.hid (HDX.out.bel hw5)
        have HX5 := Lib.hid (hw5.box HX.out)
        clear F2 hw5
        go_simp
        refine (read_any (w.heap.size + 1) o (rwF l 1 k) (rwF l 2 k) t o k ((djTo l k).C t) _ HO8.out ht6 HD5.out.vars).mono ?_
        rintro e6 w6 ⟨rfl, hb6, hc6⟩
        have HD6 := Lib.hid (HD5.out.acc (by have := hb6; rwa [gV_acc1 HKZ.out HOZ.out HTZ.out rfl] at this) hc6 (by omega) HNN.out)
        have HX6 := Lib.hid (HX5.out.grown hc6 (fun e => by have := Option.some.inj e; have := HXN.out; omega))
        clear hb6 hc6
        refine ⟨_, .inl ⟨rfl, fun _ => a_assign _ rfl⟩, fun w7 hw7 => ?_⟩
        have HD7 := Lib.hid (HD6.out.bel hw7)
        have HX7 := Lib.hid (hw7.box HX6.out)
        clear hw7
        rw [HKN.out]
        simp only [Act.put, Act.eval, List.setIfInBounds_toArray, List.set_cons_zero, List.set_cons_succ, Array.getD_eq_getD_getElem?, List.getElem?_toArray, List.getElem?_cons_zero, List.getElem?_cons_succ, Option.getD_some]
        have HLE := Lib.hid (flT_len l k)
        by_cases h0 : djK l k = 0
        · have h0' : (djK l k != 0) = false := by simp [h0]
          have HF := Lib.hid (show flT l (k + 1) = flT l k from flT_no h0)
          clear h0
          go_wp2
          go_roundw
          case rel => exact ⟨j + 1, k + 1, HKL.out, by rw [acT_yes HKA.out, List.length_append, HKJ.out]; rfl, hlt, by go_num, by rw [HF.out]; exact HD7.out⟩
          case measure => simp [intOf]; omega
        · have h0' : (djK l k != 0) = true := by simp [h0]
          have HF := Lib.hid (show flT l (k + 1) = flT l k ++ [⟨(k : Nat), o, djK l k⟩] by rw [flT_yes h0, HEZ.out])
          clear h0
          have c2 := HX7.out.cell 2 (v := .int .i64 o) rfl
          have c3 := HX7.out.cell 3 (v := .int .i64 k) rfl
          have HDA := Lib.hid (HD7.out.bel ((Bel.refl w7).alloc (.cells (evv ⟨(k : Nat), o, djK l k⟩) 107)))
          have HNW := Lib.hid (Box.news (l := evl ⟨(k : Nat), o, djK l k⟩) (Box.new w7 (evv ⟨(k : Nat), o, djK l k⟩) 107))
          have HSZ := Lib.hid HDA.out.le
          go_wp2_with (first | (refine build1 59 _ rfl rfl 107 i0 Tryz.underlying59 J.out.1 J.out.2.1 J.out.2.2.1 ⟨(k : Nat), o, djK l k⟩ rfl ?_) | (at_builtin; refine wpList_append_own_at _ rfl (.tmp 31) (.tmp 39) _ rfl N 107 i0 _ 3 24 Tryz.underlying59 J.out.1 J.out.2.1 J.out.2.2.1 J.out.2.2.2 rfl (by omega) _ (flT l k).length _ rfl HDA.out.own _ 1 1 (evl ⟨(k : Nat), o, djK l k⟩) rfl rfl HNW.out (by simp [evl, Value.oneCell']) (by have := HLE.out; have := HK80.out; unfold maxLen; omega) (by have := HLE.out; have := HK80.out; omega) HSZ.out ?_; intro v8 w8 hown8 hg8 hn8 hat8))
          refine ⟨⟨j + 1, k + 1, HKL.out, by rw [acT_yes HKA.out, List.length_append, HKJ.out]; rfl, hlt, by go_num, HDA.out.add (by omega) HNN.out HF.out hown8 hg8⟩, by simp [intOf]; omega⟩
      · have HKZ := Lib.hid (show kZ l k = 2 by unfold kZ; rw [HEZ.out])
        have HKN := Lib.hid (show kndA 2 (rwF l 2 k o) (rwF l 1 k o) ((djTo l k).C t) = djK l k by
          have h9 := kndA_djK (l := l) (j := k) (by rw [HKZ.out]; simp)
          rw [HKZ.out, HOZ.out, HTZ.out] at h9
          exact h9)
        go_upto_region 7 with (first | (refine load_ac TAc _ rfl rfl rfl hR.out ?_) | (refine acld_store TAc _ _ rfl rfl _ rfl rfl rfl ?_))
        generalize hw3 : acld wr ⟨2, t, o⟩ k ((djTo l k).C t) 230 = w3 at *
        have F2 := fun (w' : World) (h : Bel w3 w') => (h.box HX.out).cell 2 (v := .int .i64 o) rfl
        have HLX := Lib.hid (fun (w' : World) (h : Bel w3 w') => h.box HX.out)
        clear hw3
        refine region_growT 5 (by kernel_rfl) ?_
        (repeat (first | ((first | refine wpT_goN 0 (by simp only [List.getElem?_toArray, List.getElem?_cons_zero, List.getElem?_cons_succ] <;> rfl) (by decide +kernel) (by decide +kernel) (by kernel_rfl) (by rfl) (by exact fun _ _ _ _ h => h) (Nat.le_refl _) ?_ | refine wpT_goN 1 (by simp only [List.getElem?_toArray, List.getElem?_cons_zero, List.getElem?_cons_succ] <;> rfl) (by decide +kernel) (by decide +kernel) (by kernel_rfl) (by rfl) (by exact fun _ _ _ _ h => h) (Nat.le_refl _) ?_ | refine wpT_goN 2 (by simp only [List.getElem?_toArray, List.getElem?_cons_zero, List.getElem?_cons_succ] <;> rfl) (by decide +kernel) (by decide +kernel) (by kernel_rfl) (by rfl) (by exact fun _ _ _ _ h => h) (Nat.le_refl _) ?_ | refine wpT_goN 3 (by simp only [List.getElem?_toArray, List.getElem?_cons_zero, List.getElem?_cons_succ] <;> rfl) (by decide +kernel) (by decide +kernel) (by kernel_rfl) (by rfl) (by exact fun _ _ _ _ h => h) (Nat.le_refl _) ?_ | refine wpT_goN 4 (by simp only [List.getElem?_toArray, List.getElem?_cons_zero, List.getElem?_cons_succ] <;> rfl) (by decide +kernel) (by decide +kernel) (by kernel_rfl) (by rfl) (by exact fun _ _ _ _ h => h) (Nat.le_refl _) ?_); apply Exists.intro; refine ⟨fun w1 h1 => ?_, ?_⟩; (first | exact g_move _ rfl | exact g_assign _ rfl | exact g_load _ _ rfl TAc rfl (HLX.out w1 h1) | (have fct0 := F2 w1 h1; go_simp; first | exact ⟨rfl, rfl⟩ | rfl)); simp only [Act.put, Act.eval, List.setIfInBounds_toArray, List.set_cons_zero, List.set_cons_succ, Array.getD_eq_getD_getElem?, List.getElem?_toArray, List.getElem?_cons_zero, List.getElem?_cons_succ, Option.getD_some]) | ((first | refine wpT_skip 0 (by simp only [List.getElem?_toArray, List.getElem?_cons_zero, List.getElem?_cons_succ] <;> rfl) (by decide +kernel) (by decide +kernel) (by kernel_rfl) (by rfl) (by exact fun _ _ _ _ h => h) (Nat.le_refl _) ?_ | refine wpT_skip 1 (by simp only [List.getElem?_toArray, List.getElem?_cons_zero, List.getElem?_cons_succ] <;> rfl) (by decide +kernel) (by decide +kernel) (by kernel_rfl) (by rfl) (by exact fun _ _ _ _ h => h) (Nat.le_refl _) ?_ | refine wpT_skip 2 (by simp only [List.getElem?_toArray, List.getElem?_cons_zero, List.getElem?_cons_succ] <;> rfl) (by decide +kernel) (by decide +kernel) (by kernel_rfl) (by rfl) (by exact fun _ _ _ _ h => h) (Nat.le_refl _) ?_ | refine wpT_skip 3 (by simp only [List.getElem?_toArray, List.getElem?_cons_zero, List.getElem?_cons_succ] <;> rfl) (by decide +kernel) (by decide +kernel) (by kernel_rfl) (by rfl) (by exact fun _ _ _ _ h => h) (Nat.le_refl _) ?_ | refine wpT_skip 4 (by simp only [List.getElem?_toArray, List.getElem?_cons_zero, List.getElem?_cons_succ] <;> rfl) (by decide +kernel) (by decide +kernel) (by kernel_rfl) (by rfl) (by exact fun _ _ _ _ h => h) (Nat.le_refl _) ?_); simp only [Act.put, Act.eval, List.setIfInBounds_toArray, List.set_cons_zero, List.set_cons_succ, Array.getD_eq_getD_getElem?, List.getElem?_toArray, List.getElem?_cons_zero, List.getElem?_cons_succ, Option.getD_some]) | ((first | refine wpT_goA 0 (by simp only [List.getElem?_toArray, List.getElem?_cons_zero, List.getElem?_cons_succ] <;> rfl) (by decide +kernel) (by decide +kernel) (by kernel_rfl) (by rfl) (by exact fun _ _ _ _ h => h) ?_ | refine wpT_goA 1 (by simp only [List.getElem?_toArray, List.getElem?_cons_zero, List.getElem?_cons_succ] <;> rfl) (by decide +kernel) (by decide +kernel) (by kernel_rfl) (by rfl) (by exact fun _ _ _ _ h => h) ?_ | refine wpT_goA 2 (by simp only [List.getElem?_toArray, List.getElem?_cons_zero, List.getElem?_cons_succ] <;> rfl) (by decide +kernel) (by decide +kernel) (by kernel_rfl) (by rfl) (by exact fun _ _ _ _ h => h) ?_ | refine wpT_goA 3 (by simp only [List.getElem?_toArray, List.getElem?_cons_zero, List.getElem?_cons_succ] <;> rfl) (by decide +kernel) (by decide +kernel) (by kernel_rfl) (by rfl) (by exact fun _ _ _ _ h => h) ?_ | refine wpT_goA 4 (by simp only [List.getElem?_toArray, List.getElem?_cons_zero, List.getElem?_cons_succ] <;> rfl) (by decide +kernel) (by decide +kernel) (by kernel_rfl) (by rfl) (by exact fun _ _ _ _ h => h) ?_); apply Exists.intro; refine ⟨fun w1 => ?_, ?_⟩; (first | exact a_move _ rfl | exact a_assign _ rfl | (go_simp; first | exact ⟨rfl, rfl⟩ | rfl)); simp only [Act.put, Act.eval, List.setIfInBounds_toArray, List.set_cons_zero, List.set_cons_succ, Array.getD_eq_getD_getElem?, List.getElem?_toArray, List.getElem?_cons_zero, List.getElem?_cons_succ, Option.getD_some])))
        refine wpT_then 6 (by decide +kernel) (by decide +kernel) (by decide +kernel) (by simp only [List.getElem?_toArray, List.getElem?_cons_zero, List.getElem?_cons_succ] <;> rfl) (by simp only [List.getElem?_toArray, List.getElem?_cons_zero, List.getElem?_cons_succ] <;> rfl) rfl ?_
        intro w5 hw5
        have HD5 := Lib.hid (HDX.out.bel hw5)
        have HX5 := Lib.hid (hw5.box HX.out)
        clear F2 hw5
        go_simp
        refine (write_any (w.heap.size + 1) o (rwF l 1 k) (rwF l 2 k) t o k ((djTo l k).C t) _ HO8.out ht6 HD5.out.vars).mono ?_
        rintro e6 w6 ⟨rfl, hb6, hc6⟩
        have HD6 := Lib.hid (HD5.out.acc (by have := hb6; rwa [gV_acc2 HKZ.out HOZ.out HTZ.out rfl] at this) hc6 (by omega) HNN.out)
        have HX6 := Lib.hid (HX5.out.grown hc6 (fun e => by have := Option.some.inj e; have := HXN.out; omega))
        clear hb6 hc6
        refine ⟨_, .inl ⟨rfl, fun _ => a_assign _ rfl⟩, fun w7 hw7 => ?_⟩
        have HD7 := Lib.hid (HD6.out.bel hw7)
        have HX7 := Lib.hid (hw7.box HX6.out)
        clear hw7
        rw [HKN.out]
        simp only [Act.put, Act.eval, List.setIfInBounds_toArray, List.set_cons_zero, List.set_cons_succ, Array.getD_eq_getD_getElem?, List.getElem?_toArray, List.getElem?_cons_zero, List.getElem?_cons_succ, Option.getD_some]
        have HLE := Lib.hid (flT_len l k)
        by_cases h0 : djK l k = 0
        · have h0' : (djK l k != 0) = false := by simp [h0]
          have HF := Lib.hid (show flT l (k + 1) = flT l k from flT_no h0)
          clear h0
          go_wp2
          go_roundw
          case rel => exact ⟨j + 1, k + 1, HKL.out, by rw [acT_yes HKA.out, List.length_append, HKJ.out]; rfl, hlt, by go_num, by rw [HF.out]; exact HD7.out⟩
          case measure => simp [intOf]; omega
        · have h0' : (djK l k != 0) = true := by simp [h0]
          have HF := Lib.hid (show flT l (k + 1) = flT l k ++ [⟨(k : Nat), o, djK l k⟩] by rw [flT_yes h0, HEZ.out])
          clear h0
          have c2 := HX7.out.cell 2 (v := .int .i64 o) rfl
          have c3 := HX7.out.cell 3 (v := .int .i64 k) rfl
          have HDA := Lib.hid (HD7.out.bel ((Bel.refl w7).alloc (.cells (evv ⟨(k : Nat), o, djK l k⟩) 107)))
          have HNW := Lib.hid (Box.news (l := evl ⟨(k : Nat), o, djK l k⟩) (Box.new w7 (evv ⟨(k : Nat), o, djK l k⟩) 107))
          have HSZ := Lib.hid HDA.out.le
          go_wp2_with (first | (refine build1 59 _ rfl rfl 107 i0 Tryz.underlying59 J.out.1 J.out.2.1 J.out.2.2.1 ⟨(k : Nat), o, djK l k⟩ rfl ?_) | (at_builtin; refine wpList_append_own_at _ rfl (.tmp 31) (.tmp 39) _ rfl N 107 i0 _ 3 24 Tryz.underlying59 J.out.1 J.out.2.1 J.out.2.2.1 J.out.2.2.2 rfl (by omega) _ (flT l k).length _ rfl HDA.out.own _ 1 1 (evl ⟨(k : Nat), o, djK l k⟩) rfl rfl HNW.out (by simp [evl, Value.oneCell']) (by have := HLE.out; have := HK80.out; unfold maxLen; omega) (by have := HLE.out; have := HK80.out; omega) HSZ.out ?_; intro v8 w8 hown8 hg8 hn8 hat8))
          refine ⟨⟨j + 1, k + 1, HKL.out, by rw [acT_yes HKA.out, List.length_append, HKJ.out]; rfl, hlt, by go_num, HDA.out.add (by omega) HNN.out HF.out hown8 hg8⟩, by simp [intOf]; omega⟩
    · obtain rfl : j = m := by omega
      have hfin : (if may l = 0 then gV (rwF l 1 l.length) (rwF l 2 l.length) else fun _ => 0) = gV (rwF l 1 k0) (rwF l 2 k0) ∧ flags l = flT l k0 := by
        by_cases hm : may l = 0
        · obtain ⟨h1, h2, h3⟩ := HSM.out l.length k0 (by rw [hkj0, ← HM1.out, accs_ok hm])
          rw [if_pos hm, flags_ok hm, h1, h2, h3]; exact ⟨rfl, rfl⟩
        · obtain ⟨h1, h2, h3⟩ := HSM.out k0 0 (by rw [hkj0, ← HM1.out, accs_no hm]; rfl)
          rw [if_neg hm, flags_no hm, h1, h2, h3]; exact ⟨by rw [rwF_zero, rwF_zero]; funext i; unfold gV; split <;> rfl, rfl⟩
      have HVF := Lib.hid (show vF l = gV (rwF l 1 k0) (rwF l 2 k0) from hfin.1)
      have HFF := Lib.hid hfin.2
      have HR := Lib.hid hr
      clear H0 hr hfin hkj0 hk0
      go_wp2
      have HV1 := Lib.hid (fun (w' : World) (h : Kp (w.heap.size + 1) wr w') => h.box HR.out.vars)
      refine region_keep (w.heap.size + 1) (by kernel_rfl) ?_
      (repeat (first | ((first | refine wpK_go 0 (by simp only [List.getElem?_toArray, List.getElem?_cons_zero, List.getElem?_cons_succ] <;> rfl) (by decide +kernel) (by decide +kernel) (by kernel_rfl) (by rfl) (by exact fun _ _ _ _ h => h) ?_ | refine wpK_go 1 (by simp only [List.getElem?_toArray, List.getElem?_cons_zero, List.getElem?_cons_succ] <;> rfl) (by decide +kernel) (by decide +kernel) (by kernel_rfl) (by rfl) (by exact fun _ _ _ _ h => h) ?_ | refine wpK_go 2 (by simp only [List.getElem?_toArray, List.getElem?_cons_zero, List.getElem?_cons_succ] <;> rfl) (by decide +kernel) (by decide +kernel) (by kernel_rfl) (by rfl) (by exact fun _ _ _ _ h => h) ?_ | refine wpK_go 3 (by simp only [List.getElem?_toArray, List.getElem?_cons_zero, List.getElem?_cons_succ] <;> rfl) (by decide +kernel) (by decide +kernel) (by kernel_rfl) (by rfl) (by exact fun _ _ _ _ h => h) ?_ | refine wpK_go 5 (by simp only [List.getElem?_toArray, List.getElem?_cons_zero, List.getElem?_cons_succ] <;> rfl) (by decide +kernel) (by decide +kernel) (by kernel_rfl) (by rfl) (by exact fun _ _ _ _ h => h) ?_); apply Exists.intro; refine ⟨fun w1 h1 => ?_, ?_⟩; (first | exact g_move _ rfl | exact g_assign _ rfl | exact g_load _ _ rfl (TVz _) rfl (HV1.out w1 h1) | (go_simp; first | exact ⟨rfl, rfl⟩ | rfl)); simp only [Act.put, Act.eval, List.setIfInBounds_toArray, List.set_cons_zero, List.set_cons_succ, Array.getD_eq_getD_getElem?, List.getElem?_toArray, List.getElem?_cons_zero, List.getElem?_cons_succ, Option.getD_some]) | ((first | refine wpK_skip 0 (by simp only [List.getElem?_toArray, List.getElem?_cons_zero, List.getElem?_cons_succ] <;> rfl) (by decide +kernel) (by decide +kernel) (by kernel_rfl) (by rfl) (by exact fun _ _ _ _ h => h) ?_ | refine wpK_skip 1 (by simp only [List.getElem?_toArray, List.getElem?_cons_zero, List.getElem?_cons_succ] <;> rfl) (by decide +kernel) (by decide +kernel) (by kernel_rfl) (by rfl) (by exact fun _ _ _ _ h => h) ?_ | refine wpK_skip 2 (by simp only [List.getElem?_toArray, List.getElem?_cons_zero, List.getElem?_cons_succ] <;> rfl) (by decide +kernel) (by decide +kernel) (by kernel_rfl) (by rfl) (by exact fun _ _ _ _ h => h) ?_ | refine wpK_skip 3 (by simp only [List.getElem?_toArray, List.getElem?_cons_zero, List.getElem?_cons_succ] <;> rfl) (by decide +kernel) (by decide +kernel) (by kernel_rfl) (by rfl) (by exact fun _ _ _ _ h => h) ?_ | refine wpK_skip 5 (by simp only [List.getElem?_toArray, List.getElem?_cons_zero, List.getElem?_cons_succ] <;> rfl) (by decide +kernel) (by decide +kernel) (by kernel_rfl) (by rfl) (by exact fun _ _ _ _ h => h) ?_); simp only [Act.put, Act.eval, List.setIfInBounds_toArray, List.set_cons_zero, List.set_cons_succ, Array.getD_eq_getD_getElem?, List.getElem?_toArray, List.getElem?_cons_zero, List.getElem?_cons_succ, Option.getD_some])))
      (refine wpK_one 4 (by decide +kernel) ?_; intro w4 hw4; refine op_wanted (by simp only [List.getElem?_toArray, List.getElem?_cons_zero, List.getElem?_cons_succ] <;> rfl) rfl ?_)
      have HR4 := Lib.hid (HR.out.bel hw4)
      clear hw4
      refine wp_storeB TVs _ _ rfl rfl (ns_size _ _) rfl HR4.out.res (ns_size _ _) (ns_all _ _) ?_
      refine ⟨kp_setRow (by omega) _ _, ?_⟩
      simp only [Act.put, Act.eval, List.setIfInBounds_toArray, List.set_cons_zero, List.set_cons_succ, Array.getD_eq_getD_getElem?, List.getElem?_toArray, List.getElem?_cons_zero, List.getElem?_cons_succ, Option.getD_some]
      (repeat (first | ((first | refine wpK_go 5 (by simp only [List.getElem?_toArray, List.getElem?_cons_zero, List.getElem?_cons_succ] <;> rfl) (by decide +kernel) (by decide +kernel) (by kernel_rfl) (by rfl) (by exact fun _ _ _ _ h => h) ?_); apply Exists.intro; refine ⟨fun w1 h1 => ?_, ?_⟩; (first | exact g_move _ rfl | exact g_assign _ rfl | (go_simp; first | exact ⟨rfl, rfl⟩ | rfl)); simp only [Act.put, Act.eval, List.setIfInBounds_toArray, List.set_cons_zero, List.set_cons_succ, Array.getD_eq_getD_getElem?, List.getElem?_toArray, List.getElem?_cons_zero, List.getElem?_cons_succ, Option.getD_some]) | ((first | refine wpK_skip 5 (by simp only [List.getElem?_toArray, List.getElem?_cons_zero, List.getElem?_cons_succ] <;> rfl) (by decide +kernel) (by decide +kernel) (by kernel_rfl) (by rfl) (by exact fun _ _ _ _ h => h) ?_); simp only [Act.put, Act.eval, List.setIfInBounds_toArray, List.set_cons_zero, List.set_cons_succ, Array.getD_eq_getD_getElem?, List.getElem?_toArray, List.getElem?_cons_zero, List.getElem?_cons_succ, Option.getD_some])))
      (refine wpK_done (by decide +kernel) ?_ _; intro w5 hw5; try simp only [Act.put, Act.eval, List.setIfInBounds_toArray, List.set_cons_zero, List.set_cons_succ, Array.getD_eq_getD_getElem?, List.getElem?_toArray, List.getElem?_cons_zero, List.getElem?_cons_succ, Option.getD_some])
      have HS := Lib.hid (hw5.box (HR4.out.res.setRow (ns 96 (gV (rwF l 1 k0) (rwF l 2 k0)))))
      have HO := Lib.hid (own_bel (HR4.out.own.kept (chg_setRow _ _ _) (.inr fun e => by have := own_block_ge HR4.out.own _ e; have := HNN.out; omega)) hw5)
      have HB5 := Lib.hid ((below_setRow' HR4.out.below w.heap.size (ns 96 (gV (rwF l 1 k0) (rwF l 2 k0))) (Nat.le_refl _)).trans (hw5.out.mono (by have := HR4.out.below.size; simp; exact this)))
      clear hw5
      go_wp2
      refine bodyPost_ret (res_tct Tryz.results139 rfl HS.out (TVz _)) rfl ⟨u5, ?_, ?_, ?_⟩
      · rw [HVF.out]; rfl
      · rw [HFF.out]; exact own_drop_alloc HO.out (by have := HNN.out; omega)
      · exact HB5.out
end Go.Proofs.YtnklpifnknmdgaaGreatDoor
namespace Go.Proofs.YtnklpifnknmdgaaGreatDoor
open Go Go.RowKit

def RunPost (w : World) (l : List Ev) (e : Ending) (w' : World) : Prop :=
  ∃ v, e = .returned (.tuple #[v, .int .i64 (may l)]) ∧ w'.ownsRow w.heap.size 107 3 v (flags l).length (evc (flags l)) ∧ Below w.heap.size w w'
set_option maxHeartbeats 4000000 in
theorem run_any (A : Option Addr) (n c : Nat) (l : List Ev) (w : World) (hl : Sl w A n l) : Calls Tryz.prog 100 #[.slice A n c] w (RunPost w l) := by
  have HL := Lib.hid hl
  clear hl
  go_enter Tryz.func100, Tryz.ntmps100
  go_wp2_with fail
  refine (detect_any A n c l _ HL.out).mono ?_
  rintro e w1 ⟨v, rfl, hown, hb⟩
  have HO := Lib.hid hown
  have HB := Lib.hid hb
  clear hown hb
  have hbn := Box.new w1 (ns 96 fun _ => 0) 189
  have ZV := zv96
  go_wp2_with (refine storeB _ _ _ rfl rfl rfl rfl hbn (by rw [ns_size, ns_size]) (TVz _) (ns_all _ _) ?_)
  go_ret2
  exact ⟨_, rfl, (own_alloc HO.out (.cells (ns 96 fun _ => 0) 189)).kept (chg_setRow _ _ _) (.inr fun e => by have := (own_lt HO.out e).2; omega), below_setRow' (HB.out.alloc HB.out.size _) _ _ HB.out.size⟩
end Go.Proofs.YtnklpifnknmdgaaGreatDoor
