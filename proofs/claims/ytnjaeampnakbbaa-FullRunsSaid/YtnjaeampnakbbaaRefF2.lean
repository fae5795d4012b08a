/- The reference's Full. -/
import Derived.Test.YtnjaeampnakbbaaRefF1
import Derived.Test.YtnjaeampnakbbaaRefRc
set_option linter.all false
set_option maxRecDepth 100000
namespace Go.Proofs.Ytnjaeampnakbbaa
open Go Go.RowKit

def RFullPost (w : World) (l : List Ev) (x : Nat) (e : Ending) (w' : World) : Prop :=
  ∃ v, e = .returned (.tuple #[v, .agg (clk (ck (rwF l 1 l.length x))), .agg (clk (ck (rwF l 2 l.length x)))]) ∧ w'.ownsRow w.heap.size 35 3 v (flags l).length (evc (flags l)) ∧ Below w.heap.size w w'
set_option maxHeartbeats 16000000 in
theorem rfull_any (A : Option Addr) (n c : Nat) (l : List Ev) (x : Nat) (w : World) (hl : Sl w A n l) (hm : may l = 0) (hx : x < 8) : Calls Try.prog 20 #[.slice A n c, .int .i64 x] w (RFullPost w l x) := by
  obtain ⟨b1, b2, hB, hs⟩ := boxes2 w #[.int .i64 0, .int .i64 0, .int .i64 0, .int .i64 0, .int .i64 0, .int .i64 0] #[.int .i64 0, .int .i64 0, .int .i64 0, .int .i64 0, .int .i64 0, .int .i64 0] 30 30
  obtain ⟨i0, hi0, hz0, hz1, hz2⟩ := info_parts fl_info
  have J := Lib.hid (And.intro hi0 (And.intro hz0 (And.intro hz1 hz2)))
  have HL := Lib.hid (hl.bel (Bel.of hB))
  have HM := Lib.hid hm
  have HN := Lib.hid hl.1
  have hn80 : n ≤ 80 := by rw [← hl.1]; exact ((may_iff l).1 hm).1
  have HB := Lib.hid (Bel.of hB)
  have HB1 := Lib.hid b1
  have HB2 := Lib.hid b2
  have hln : (rcs l).length ≤ 6480 := by rw [rcs_ok hm]; unfold rcsA; rw [List.length_map]; exact prs_small ((may_iff l).1 hm).1 (Nat.le_refl _) (Nat.zero_le _)
  clear hi0 hz0 hz1 hz2 hl hs hB b1 b2 hm
  generalize hW : ((w.alloc (.cells #[.int .i64 0, .int .i64 0, .int .i64 0, .int .i64 0, .int .i64 0, .int .i64 0] 30)).alloc (.cells #[.int .i64 0, .int .i64 0, .int .i64 0, .int .i64 0, .int .i64 0, .int .i64 0] 30)) = W at *
  have HW := Lib.hid hW
  clear hW
  go_enter Try.func20, Try.ntmps20
  go_wp2_with fail
  rw [HW.out]
  refine (races_any A n c l _ HL.out HM.out).mono ?_
  rintro e w1 ⟨v1, rfl, hown, hb⟩
  have HX1 := Lib.hid (Bel.of hb)
  obtain ⟨A1, c1, rfl, hs1, _⟩ := SlR.own hown
  have HS1 := Lib.hid hs1
  have HFK := Lib.hid (fun (j : Nat) (hj : j < l.length) => fk_all HM.out hj)
  clear hb hown hs1
  generalize rcs l = rs at *
  generalize hnr : rs.length = m at *
  have HNR := Lib.hid hnr
  have H0 := Lib.hid (RfR.mk (World.ownsRow_nil _ _ _ _) (Bel.refl w1) : RfR w1 l 0 (.slice none 0 0) w1)
  clear hnr
  go_wp2
  go_loopw [7, 22] (fun v t22 wr => ∃ j : Nat, j ≤ n ∧ t22 = .int .i64 j ∧ RfR w1 l j v wr) (fun _ t22 _ => n - (intOf t22).toNat)
  case atStart => exact ⟨0, by omega, rfl, H0.out⟩
  case round =>
    obtain ⟨j, hj, rfl, hr⟩ := hrel
    have HR := Lib.hid hr
    clear hr H0
    by_cases hlt : j < n
    · have hlt' : (j : Int) < n := by omega
      go_wp2
      go_loopw [10, 27] (fun q t27 wr => ∃ i : Nat, i ≤ m ∧ t27 = .int .i64 i ∧ q = .int .i64 (fk (rs.take i) j) ∧ RfR w1 l j u7 wr) (fun _ t27 _ => m - (intOf t27).toNat)
      case atStart => exact ⟨0, by omega, rfl, rfl, HR.out⟩
      case round =>
        obtain ⟨i, hi, rfl, rfl, hr⟩ := hrel
        have HR2 := Lib.hid hr
        clear hr HR
        by_cases hli : i < m
        · have hli' : (i : Int) < m := by omega
          obtain ⟨rb, roff, r, rfl, hrb, hre, hrg⟩ := HS1.out.at_ hli
          have hR := Lib.hid (rangeAt_below HR2.out.below.out hrb hrg)
          have HRX := Lib.hid (HR2.out.bel (rwld_below wr r 55))
          have HX := rwld_box wr r 55
          have HE := Lib.hid (show fk (rs.take (i + 1)) j = fkS j (fk (rs.take i) j) r by rw [rc_ptake hre, fk_snoc])
          generalize fk (rs.take i) j = q at *
          have c1 := HX.cell 1 (v := .int .i64 r.b) rfl
          have c3 := HX.cell 3 (v := .int .i64 r.k) rfl
          clear hrg hre HX
          go_upto_region 10 with (first | (refine load_rc TRc _ rfl rfl rfl hR.out ?_) | (refine rwld_store TRc _ _ rfl rfl _ rfl rfl rfl ?_))
          generalize rwld wr r 55 = w4 at *
          by_cases hb : r.b = j
          · have hb' : ((r.b : Int) == (j : Int)) = true := by simp [hb]
            by_cases h0 : q = 0
            · have h0' : (q == 0) = true := by simp [h0]
              have HV := Lib.hid (show fkS j q r = r.k by unfold fkS; rw [if_pos ⟨hb, .inl h0⟩])
              clear h0 hb
              go_wp2
              go_roundw
              case rel => exact ⟨i + 1, by omega, by go_num, by rw [HE.out, HV.out], HRX.out⟩
              case measure => simp [intOf]; omega
            · have h0' : (q == 0) = false := by simp [h0]
              by_cases hq : r.k < q
              · have HV := Lib.hid (show fkS j q r = r.k by unfold fkS; rw [if_pos ⟨hb, .inr hq⟩])
                clear h0 hb
                go_wp2
                go_roundw
                case rel => exact ⟨i + 1, by omega, by go_num, by rw [HE.out, HV.out], HRX.out⟩
                case measure => simp [intOf]; omega
              · have HV := Lib.hid (show fkS j q r = q by unfold fkS; rw [if_neg (fun h => h.2.elim h0 hq)])
                have hq' : q ≤ r.k := by omega
                clear h0 hb
                go_wp2
                go_roundw
                case rel => exact ⟨i + 1, by omega, by go_num, by rw [HE.out, HV.out], HRX.out⟩
                case measure => simp [intOf]; omega
          · have hb' : ((r.b : Int) == (j : Int)) = false := by simp; omega
            have HV := Lib.hid (show fkS j q r = q by unfold fkS; rw [if_neg (fun h => hb h.1)])
            clear hb
            go_wp2
            go_roundw
            case rel => exact ⟨i + 1, by omega, by go_num, by rw [HE.out, HV.out], HRX.out⟩
            case measure => simp [intOf]; omega
        · obtain rfl : i = m := by omega
          have HD := Lib.hid (show fk (rs.take i) j = djK l j by rw [← HNR.out, List.take_length]; exact HFK.out j (by rw [HN.out]; exact hlt))
          rw [HD.out]
          have HLE := Lib.hid (flT_len l j)
          by_cases h0 : djK l j = 0
          · have HF := Lib.hid (HR2.out.none h0)
            have h0' : ¬ (0 : Int) < djK l j := by omega
            clear h0
            go_wp2
            go_roundw
            case rel => exact ⟨j + 1, by omega, by go_num, HF.out⟩
            case measure => simp [intOf]; omega
          · have h0' : (0 : Int) < djK l j := by have := (djK_low l j).1; omega
            have H0K := Lib.hid h0
            clear h0
            obtain ⟨bb, off, ⟨ek, et, eo⟩, rfl, hbb, he, hrg⟩ := HL.out.at_ hlt
            have e2 := rangeAt_below ((HX1.out).trans HR2.out.below).out hbb hrg 2 (.int .i64 eo) rfl
            have HOE := Lib.hid (show (⟨(j : Nat), eo, djK l j⟩ : Ev) = ⟨(j : Nat), (eZ l j).o, djK l j⟩ by rw [eZ_at he])
            have HA := Lib.hid (own_alloc HR2.out.own (.cells (evv ⟨(j : Nat), eo, djK l j⟩) 35))
            have HNW := Lib.hid (Box.news (l := evl ⟨(j : Nat), eo, djK l j⟩) (Box.new wr (evv ⟨(j : Nat), eo, djK l j⟩) 35))
            have HSZ := Lib.hid (HR2.out.below.alloc (.cells (evv ⟨(j : Nat), eo, djK l j⟩) 35)).size
            clear he hrg
            go_wp2_with (first | (refine build1 23 _ rfl rfl 35 i0 Try.underlying23 J.out.1 J.out.2.1 J.out.2.2.1 ⟨(j : Nat), eo, djK l j⟩ rfl ?_) | (at_builtin; refine wpList_append_own_at _ rfl (.tmp 50) (.tmp 59) _ rfl w1.heap.size 35 i0 _ 3 24 Try.underlying23 J.out.1 J.out.2.1 J.out.2.2.1 J.out.2.2.2 rfl (by omega) _ (flT l j).length _ rfl HA.out _ 1 1 (evl ⟨(j : Nat), eo, djK l j⟩) rfl rfl HNW.out (by simp [evl, Value.oneCell']) (by have := HLE.out; unfold maxLen; omega) (by have := HLE.out; omega) HSZ.out ?_; intro v8 w8 hown8 hg8 hn8 hat8))
            refine ⟨⟨j + 1, by omega, by go_num, ⟨?_, (HR2.out.below.alloc _).out.grown hg8 HSZ.out (own_block_ge HA.out)⟩⟩, by simp [intOf]; omega⟩
            rw [flT_yes H0K.out, List.length_append, evc_append, ← HOE.out]
            exact hown8
    · obtain rfl : j = n := by omega
      have HFL := Lib.hid (show flT l j = flags l by rw [flags_ok HM.out, HN.out])
      have hro := HR.out.own
      rw [HFL.out] at hro
      have HO := Lib.hid hro
      have HRB := Lib.hid HR.out.below
      clear hro HR
      obtain ⟨e1, e2, e3, hE, hs⟩ := boxes3 wr #[.int .i64 0, .int .i64 0, .int .i64 0, .int .i64 0, .int .i64 0, .int .i64 0] #[.int .i64 0, .int .i64 0, .int .i64 0, .int .i64 0, .int .i64 0, .int .i64 0] #[.int .i64 0, .int .i64 0, .int .i64 0, .int .i64 0, .int .i64 0, .int .i64 0] 30 30 30
      have hg0 : clk (ck (gvn l 0)) = #[.int .i64 0, .int .i64 0, .int .i64 0, .int .i64 0, .int .i64 0, .int .i64 0] := by
        have h9 : clk (ck (gvn l 0)) = clk (fun _ => 0) := clk_congr fun u _ => by unfold ck; rw [gvn_zero]; rfl
        rw [h9]; rfl
      have H1 := Lib.hid (show RfS wr l x 0 (((wr.alloc (.cells #[.int .i64 0, .int .i64 0, .int .i64 0, .int .i64 0, .int .i64 0, .int .i64 0] 30)).alloc (.cells #[.int .i64 0, .int .i64 0, .int .i64 0, .int .i64 0, .int .i64 0, .int .i64 0] 30)).alloc (.cells #[.int .i64 0, .int .i64 0, .int .i64 0, .int .i64 0, .int .i64 0, .int .i64 0] 30)) from ⟨by rw [hg0]; exact e1, e2, e3, hE⟩)
      clear hg0
      clear e1 e2 e3 hE hs
      have hX := HX1.out
      generalize hw2 : wr = w2 at *
      go_wp2
      generalize hw3 : (((w2.alloc (.cells #[.int .i64 0, .int .i64 0, .int .i64 0, .int .i64 0, .int .i64 0, .int .i64 0] 30)).alloc (.cells #[.int .i64 0, .int .i64 0, .int .i64 0, .int .i64 0, .int .i64 0, .int .i64 0] 30)).alloc (.cells #[.int .i64 0, .int .i64 0, .int .i64 0, .int .i64 0, .int .i64 0, .int .i64 0] 30)) = w3 at *
      clear hw3 hw2
      go_loopw [64] (fun t64 wr => ∃ k : Nat, k ≤ j ∧ t64 = .int .i64 k ∧ RfS w2 l x k wr) (fun t64 _ => j - (intOf t64).toNat)
      case atStart => exact ⟨0, by omega, rfl, H1.out⟩
      case round =>
        obtain ⟨k, hk, rfl, hr⟩ := hrel
        have HR := Lib.hid hr
        clear hr H1
        by_cases hlt : k < j
        · have hlt' : (k : Int) < j := by omega
          obtain ⟨bb, off, ⟨ek, et, eo⟩, rfl, hbb, he, hrg⟩ := HL.out.at_ hlt
          have hev := wrong_isEv (wrong_at HM.out he)
          have het := isEv_t hev
          have heo := isEv_o hev
          obtain ⟨t, rfl⟩ := Int.eq_ofNat_of_zero_le het.1
          obtain ⟨o, rfl⟩ := Int.eq_ofNat_of_zero_le heo.1
          have ht6 : t < 6 := by have := het.2; dsimp only at this; omega
          have ht6' : (t : Int) < 6 := by omega
          have HKZ := Lib.hid (show kZ l k = ek by unfold kZ; rw [eZ_at he])
          have HTZ := Lib.hid (show tZ l k = t by unfold tZ; rw [eZ_at he]; rfl)
          have HOZ := Lib.hid (show oZ l k = o by unfold oZ; rw [eZ_at he]; rfl)
          have HKL := Lib.hid (show k < l.length by rw [HN.out]; exact hlt)
          have hR := Lib.hid (rangeAt_below ((HX1.out.trans HRB.out).trans (Bel.of HR.out.below)).out hbb hrg)
          have HRX := Lib.hid (HR.out.bel (ewld_below wr ⟨ek, t, o⟩ 45))
          obtain ⟨c0, c1, c2⟩ := ewld_cells wr ⟨ek, t, o⟩ 45
          clear he hrg hev het heo
          go_upto_region 20 with (first | (refine load_ev T36 _ rfl rfl rfl hR.out ?_) | (refine ewld_store T36 _ _ rfl rfl _ rfl rfl rfl ?_))
          generalize ewld wr ⟨ek, t, o⟩ 45 = w5 at *
          by_cases hg : ek = 4 ∨ ek = 5 ∨ ek = 8
          · rcases hg with rfl | rfl | rfl
            · skip
              have d0 := HRX.out.cell ht6
              have g0 := HRX.out.own.frozen t
              have f1 : IntKind.i64.wrap (((gvn l k t : Nat) : Int) + 1) = ((gvn l k t : Nat) : Int) + 1 := IntWalk.i64_in _ (by have := gvn_len HM.out (u := t) (Nat.le_of_lt HKL.out); have := HKL.out; rw [HN.out] at this; omega)
              have HS := Lib.hid (fun (w' : World) (h : RfS w2 l x k w') => h.give HM.out HKL.out (by rw [HKZ.out]; omega) HTZ.out ht6 rfl)
              go_wp2
              go_roundw
              case rel => exact ⟨k + 1, by omega, by go_num, HS.out _ HRX.out⟩
              case measure => simp [intOf]; omega
            · skip
              have d0 := HRX.out.cell ht6
              have g0 := HRX.out.own.frozen t
              have f1 : IntKind.i64.wrap (((gvn l k t : Nat) : Int) + 1) = ((gvn l k t : Nat) : Int) + 1 := IntWalk.i64_in _ (by have := gvn_len HM.out (u := t) (Nat.le_of_lt HKL.out); have := HKL.out; rw [HN.out] at this; omega)
              have HS := Lib.hid (fun (w' : World) (h : RfS w2 l x k w') => h.give HM.out HKL.out (by rw [HKZ.out]; omega) HTZ.out ht6 rfl)
              go_wp2
              go_roundw
              case rel => exact ⟨k + 1, by omega, by go_num, HS.out _ HRX.out⟩
              case measure => simp [intOf]; omega
            · skip
              have d0 := HRX.out.cell ht6
              have g0 := HRX.out.own.frozen t
              have f1 : IntKind.i64.wrap (((gvn l k t : Nat) : Int) + 1) = ((gvn l k t : Nat) : Int) + 1 := IntWalk.i64_in _ (by have := gvn_len HM.out (u := t) (Nat.le_of_lt HKL.out); have := HKL.out; rw [HN.out] at this; omega)
              have HS := Lib.hid (fun (w' : World) (h : RfS w2 l x k w') => h.give HM.out HKL.out (by rw [HKZ.out]; omega) HTZ.out ht6 rfl)
              go_wp2
              go_roundw
              case rel => exact ⟨k + 1, by omega, by go_num, HS.out _ HRX.out⟩
              case measure => simp [intOf]; omega
          · have h4 : (ek == 4) = false := by simp; omega
            have h5 : (ek == 5) = false := by simp; omega
            have h8 : (ek == 8) = false := by simp; omega
            by_cases h1 : ek = 1
            · subst h1
              by_cases ho : o = x
              · subst ho
                have hoo : ((o : Int) == (o : Int)) = true := by simp
                clear hg
                have d0 := HRX.out.cell ht6
                have d1 := HRX.out.rd.cell t (clk_get _ t ht6)
                have g0 := HRX.out.rd.frozen t
                have f1 : IntKind.i64.wrap (((gvn l k t : Nat) : Int) + 1) = ((gvn l k t : Nat) : Int) + 1 := IntWalk.i64_in _ (by have := gvn_len HM.out (u := t) (Nat.le_of_lt HKL.out); have := HKL.out; rw [HN.out] at this; omega)
                have HS := Lib.hid (fun (w' : World) (h : RfS w2 l o k w') => h.read HM.out HKL.out HKZ.out HOZ.out HTZ.out ht6 rfl)
                go_wp2
                (refine wp_region_still_tail 8 (by kernel_rfl) (by kernel_rfl) ?_; simp only [List.take_succ_cons, List.take_zero, List.drop_succ_cons, List.drop_zero]; (repeat (first | ((with_reducible refine s_skip ?_ ?_); exact rfl; simp only [Act.put, Act.eval, List.setIfInBounds_toArray, List.set_cons_zero, List.set_cons_succ, Array.getD_eq_getD_getElem?, List.getElem?_toArray, List.getElem?_cons_zero, List.getElem?_cons_succ, Option.getD_some]) | ((with_reducible refine wpStill_step ?_); intro K hK; go_simp; (with_reducible refine hK _ ?_); clear hK K))); (with_reducible refine wpStill_nil ?_))
                change wpList _ _ _ _ _ w5.drew
                go_wp2
                go_roundw
                case rel => exact ⟨k + 1, by omega, by go_num, HS.out _ (HRX.out.bel (Bel.refl _).drew)⟩
                case measure => simp [intOf]; omega
              · have hoo : ((o : Int) == (x : Int)) = false := by simp; omega
                have HS := Lib.hid (HRX.out.no HM.out HKL.out (by rw [HKZ.out]; omega) (by rw [HKZ.out, HOZ.out]; omega) (by rw [HKZ.out, HOZ.out]; omega))
                go_wp2
                go_roundw
                case rel => exact ⟨k + 1, by omega, by go_num, HS.out⟩
                case measure => simp [intOf]; omega
            · have h1' : (ek == 1) = false := by simp; omega
              by_cases h2 : ek = 2
              · subst h2
                by_cases ho : o = x
                · subst ho
                  have hoo : ((o : Int) == (o : Int)) = true := by simp
                  clear hg
                  have d0 := HRX.out.cell ht6
                  have d1 := HRX.out.wt.cell t (clk_get _ t ht6)
                  have g0 := HRX.out.wt.frozen t
                  have f1 : IntKind.i64.wrap (((gvn l k t : Nat) : Int) + 1) = ((gvn l k t : Nat) : Int) + 1 := IntWalk.i64_in _ (by have := gvn_len HM.out (u := t) (Nat.le_of_lt HKL.out); have := HKL.out; rw [HN.out] at this; omega)
                  have HS := Lib.hid (fun (w' : World) (h : RfS w2 l o k w') => h.write HM.out HKL.out HKZ.out HOZ.out HTZ.out ht6 rfl)
                  go_wp2
                  (refine wp_region_still_tail 8 (by kernel_rfl) (by kernel_rfl) ?_; simp only [List.take_succ_cons, List.take_zero, List.drop_succ_cons, List.drop_zero]; (repeat (first | ((with_reducible refine s_skip ?_ ?_); exact rfl; simp only [Act.put, Act.eval, List.setIfInBounds_toArray, List.set_cons_zero, List.set_cons_succ, Array.getD_eq_getD_getElem?, List.getElem?_toArray, List.getElem?_cons_zero, List.getElem?_cons_succ, Option.getD_some]) | ((with_reducible refine wpStill_step ?_); intro K hK; go_simp; (with_reducible refine hK _ ?_); clear hK K))); (with_reducible refine wpStill_nil ?_))
                  change wpList _ _ _ _ _ w5.drew
                  go_wp2
                  go_roundw
                  case rel => exact ⟨k + 1, by omega, by go_num, HS.out _ (HRX.out.bel (Bel.refl _).drew)⟩
                  case measure => simp [intOf]; omega
                · have hoo : ((o : Int) == (x : Int)) = false := by simp; omega
                  have HS := Lib.hid (HRX.out.no HM.out HKL.out (by rw [HKZ.out]; omega) (by rw [HKZ.out, HOZ.out]; omega) (by rw [HKZ.out, HOZ.out]; omega))
                  go_wp2
                  go_roundw
                  case rel => exact ⟨k + 1, by omega, by go_num, HS.out⟩
                  case measure => simp [intOf]; omega
              · have h2' : (ek == 2) = false := by simp; omega
                have HS := Lib.hid (HRX.out.no HM.out HKL.out (by rw [HKZ.out]; omega) (by rw [HKZ.out]; omega) (by rw [HKZ.out]; omega))
                go_wp2
                go_roundw
                case rel => exact ⟨k + 1, by omega, by go_num, HS.out⟩
                case measure => simp [intOf]; omega
        · obtain rfl : k = j := by omega
          go_wp2
          have HV1 := Lib.hid (fun (w' : World) (h : Ks (fun b => b = w2.heap.size + 1 ∨ b = w2.heap.size + 1 + 1) wr w') => h.box (.inl rfl) HR.out.rd)
          have HV2 := Lib.hid (fun (w' : World) (h : Ks (fun b => b = w2.heap.size + 1 ∨ b = w2.heap.size + 1 + 1) wr w') => h.box (.inr rfl) HR.out.wt)
          have HLT := Lib.hid (show w.heap.size + 1 < w2.heap.size from by have h1 := HB2.out.lt; have h2 := (HX1.out.trans HRB.out).size; omega)
          refine region_keepS (fun b => b = w2.heap.size + 1 ∨ b = w2.heap.size + 1 + 1) (by kernel_rfl) ?_
          (repeat (first | (refine wpS_go 0 (by simp only [List.getElem?_toArray, List.getElem?_cons_zero, List.getElem?_cons_succ] <;> rfl) (by decide +kernel) (by decide +kernel) (by kernel_rfl) (by rfl) (by exact fun _ _ _ _ h => h) ?_; apply Exists.intro; refine ⟨fun w1 h1 => ?_, ?_⟩; (first | exact g_move _ rfl | exact g_assign _ rfl | exact g_load _ _ rfl ck28 rfl (HV1.out w1 h1) | exact g_load _ _ rfl ck28 rfl (HV2.out w1 h1) | (go_simp; first | exact ⟨rfl, rfl⟩ | rfl)); simp only [Act.put, Act.eval, List.setIfInBounds_toArray, List.set_cons_zero, List.set_cons_succ, Array.getD_eq_getD_getElem?, List.getElem?_toArray, List.getElem?_cons_zero, List.getElem?_cons_succ, Option.getD_some]) | (refine wpS_go 1 (by simp only [List.getElem?_toArray, List.getElem?_cons_zero, List.getElem?_cons_succ] <;> rfl) (by decide +kernel) (by decide +kernel) (by kernel_rfl) (by rfl) (by exact fun _ _ _ _ h => h) ?_; apply Exists.intro; refine ⟨fun w1 h1 => ?_, ?_⟩; (first | exact g_move _ rfl | exact g_assign _ rfl | exact g_load _ _ rfl ck28 rfl (HV1.out w1 h1) | exact g_load _ _ rfl ck28 rfl (HV2.out w1 h1) | (go_simp; first | exact ⟨rfl, rfl⟩ | rfl)); simp only [Act.put, Act.eval, List.setIfInBounds_toArray, List.set_cons_zero, List.set_cons_succ, Array.getD_eq_getD_getElem?, List.getElem?_toArray, List.getElem?_cons_zero, List.getElem?_cons_succ, Option.getD_some]) | (refine wpS_go 2 (by simp only [List.getElem?_toArray, List.getElem?_cons_zero, List.getElem?_cons_succ] <;> rfl) (by decide +kernel) (by decide +kernel) (by kernel_rfl) (by rfl) (by exact fun _ _ _ _ h => h) ?_; apply Exists.intro; refine ⟨fun w1 h1 => ?_, ?_⟩; (first | exact g_move _ rfl | exact g_assign _ rfl | exact g_load _ _ rfl ck28 rfl (HV1.out w1 h1) | exact g_load _ _ rfl ck28 rfl (HV2.out w1 h1) | (go_simp; first | exact ⟨rfl, rfl⟩ | rfl)); simp only [Act.put, Act.eval, List.setIfInBounds_toArray, List.set_cons_zero, List.set_cons_succ, Array.getD_eq_getD_getElem?, List.getElem?_toArray, List.getElem?_cons_zero, List.getElem?_cons_succ, Option.getD_some]) | (refine wpS_go 3 (by simp only [List.getElem?_toArray, List.getElem?_cons_zero, List.getElem?_cons_succ] <;> rfl) (by decide +kernel) (by decide +kernel) (by kernel_rfl) (by rfl) (by exact fun _ _ _ _ h => h) ?_; apply Exists.intro; refine ⟨fun w1 h1 => ?_, ?_⟩; (first | exact g_move _ rfl | exact g_assign _ rfl | exact g_load _ _ rfl ck28 rfl (HV1.out w1 h1) | exact g_load _ _ rfl ck28 rfl (HV2.out w1 h1) | (go_simp; first | exact ⟨rfl, rfl⟩ | rfl)); simp only [Act.put, Act.eval, List.setIfInBounds_toArray, List.set_cons_zero, List.set_cons_succ, Array.getD_eq_getD_getElem?, List.getElem?_toArray, List.getElem?_cons_zero, List.getElem?_cons_succ, Option.getD_some]) | (refine wpS_skip 0 (by simp only [List.getElem?_toArray, List.getElem?_cons_zero, List.getElem?_cons_succ] <;> rfl) (by decide +kernel) (by decide +kernel) (by kernel_rfl) (by rfl) (by exact fun _ _ _ _ h => h) ?_; simp only [Act.put, Act.eval, List.setIfInBounds_toArray, List.set_cons_zero, List.set_cons_succ, Array.getD_eq_getD_getElem?, List.getElem?_toArray, List.getElem?_cons_zero, List.getElem?_cons_succ, Option.getD_some]) | (refine wpS_skip 1 (by simp only [List.getElem?_toArray, List.getElem?_cons_zero, List.getElem?_cons_succ] <;> rfl) (by decide +kernel) (by decide +kernel) (by kernel_rfl) (by rfl) (by exact fun _ _ _ _ h => h) ?_; simp only [Act.put, Act.eval, List.setIfInBounds_toArray, List.set_cons_zero, List.set_cons_succ, Array.getD_eq_getD_getElem?, List.getElem?_toArray, List.getElem?_cons_zero, List.getElem?_cons_succ, Option.getD_some]) | (refine wpS_skip 2 (by simp only [List.getElem?_toArray, List.getElem?_cons_zero, List.getElem?_cons_succ] <;> rfl) (by decide +kernel) (by decide +kernel) (by kernel_rfl) (by rfl) (by exact fun _ _ _ _ h => h) ?_; simp only [Act.put, Act.eval, List.setIfInBounds_toArray, List.set_cons_zero, List.set_cons_succ, Array.getD_eq_getD_getElem?, List.getElem?_toArray, List.getElem?_cons_zero, List.getElem?_cons_succ, Option.getD_some]) | (refine wpS_skip 3 (by simp only [List.getElem?_toArray, List.getElem?_cons_zero, List.getElem?_cons_succ] <;> rfl) (by decide +kernel) (by decide +kernel) (by kernel_rfl) (by rfl) (by exact fun _ _ _ _ h => h) ?_; simp only [Act.put, Act.eval, List.setIfInBounds_toArray, List.set_cons_zero, List.set_cons_succ, Array.getD_eq_getD_getElem?, List.getElem?_toArray, List.getElem?_cons_zero, List.getElem?_cons_succ, Option.getD_some])))
          (refine wpS_one 4 (by decide +kernel) ?_; intro w6 hw6; refine op_wanted (by simp only [List.getElem?_toArray, List.getElem?_cons_zero, List.getElem?_cons_succ] <;> rfl) rfl ?_)
          have HW6 := Lib.hid (((HX1.out.trans HRB.out).trans (Bel.of HR.out.below)).trans hw6)
          have HBA := Lib.hid (HW6.out.box HB1.out)
          have HBB := Lib.hid ((HW6.out.box HB2.out).setRow_ne w.heap.size (clk (ck (rwF l 1 k x))) (by omega))
          have HO6 := Lib.hid ((own_bel HO.out ((Bel.of HR.out.below).trans hw6)).kept (chg_setRow w6 w.heap.size (clk (ck (rwF l 1 k x)))) (.inr fun e => by have := own_block_ge HO.out _ e; have := HX1.out.size; have := HB2.out.lt; omega))
          have HG6 := Lib.hid (below_setRow' (HB.out.trans HW6.out).out w.heap.size (clk (ck (rwF l 1 k x))) (Nat.le_refl _))
          clear hw6
          refine wp_storeB ck28 _ _ rfl rfl rfl rfl HBA.out rfl (clk_all _) ?_
          refine ⟨Ks.setRow (by have := HLT.out; omega) _ _, ?_⟩
          simp only [Act.put, Act.eval, List.setIfInBounds_toArray, List.set_cons_zero, List.set_cons_succ, Array.getD_eq_getD_getElem?, List.getElem?_toArray, List.getElem?_cons_zero, List.getElem?_cons_succ, Option.getD_some]
          have HBA6 := Lib.hid (HBA.out.setRow (clk (ck (rwF l 1 k x))))
          generalize w6.setRow w.heap.size (clk (ck (rwF l 1 k x))) = w7 at *
          (refine wpS_one 5 (by decide +kernel) ?_; intro w8 hw8; refine op_wanted (by simp only [List.getElem?_toArray, List.getElem?_cons_zero, List.getElem?_cons_succ] <;> rfl) rfl ?_)
          have HBA8 := Lib.hid ((hw8.box HBA6.out).setRow_ne (w.heap.size + 1) (clk (ck (rwF l 2 k x))) (by omega))
          have HBB8 := Lib.hid (hw8.box HBB.out)
          have HO8 := Lib.hid ((own_bel HO6.out hw8).kept (chg_setRow w8 (w.heap.size + 1) (clk (ck (rwF l 2 k x)))) (.inr fun e => by have := own_block_ge HO6.out _ e; have := HX1.out.size; have := HB2.out.lt; omega))
          have HG8 := Lib.hid (below_setRow' ((Bel.of HG6.out).trans hw8).out (w.heap.size + 1) (clk (ck (rwF l 2 k x))) (by omega))
          clear hw8
          refine wp_storeB ck28 _ _ rfl rfl rfl rfl HBB8.out rfl (clk_all _) ?_
          refine ⟨Ks.setRow (by have := HLT.out; omega) _ _, ?_⟩
          simp only [Act.put, Act.eval, List.setIfInBounds_toArray, List.set_cons_zero, List.set_cons_succ, Array.getD_eq_getD_getElem?, List.getElem?_toArray, List.getElem?_cons_zero, List.getElem?_cons_succ, Option.getD_some]
          have HBB9 := Lib.hid (HBB8.out.setRow (clk (ck (rwF l 2 k x))))
          generalize w8.setRow (w.heap.size + 1) (clk (ck (rwF l 2 k x))) = w9 at *
          (refine wpS_done (by decide +kernel) ?_ _; intro w10 hw10; try simp only [Act.put, Act.eval, List.setIfInBounds_toArray, List.set_cons_zero, List.set_cons_succ, Array.getD_eq_getD_getElem?, List.getElem?_toArray, List.getElem?_cons_zero, List.getElem?_cons_succ, Option.getD_some])
          have HBA10 := Lib.hid (hw10.box HBA8.out)
          have HBB10 := Lib.hid (hw10.box HBB9.out)
          have HO10 := Lib.hid (own_bel HO8.out hw10)
          have HG10 := Lib.hid (HG8.out.trans (hw10.out.mono HG8.out.size))
          clear hw10
          go_wp2
          refine bodyPost_ret (results_tcc Try.results20 rfl rfl HBA10.out ck28 HBB10.out ck28) rfl ⟨u7, ?_, ?_, HG10.out⟩
          · rw [HN.out]; rfl
          · exact own_drop_alloc HO10.out (by have := HX1.out.size; have := HB2.out.lt; omega)
end Go.Proofs.Ytnjaeampnakbbaa
