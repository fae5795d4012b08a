/- The machine's method outcome; start. -/
import Derived.Test.YtecdilijcjgjmaaMn
import Derived.Test.YtecdilijcjgjmaaRpS
set_option linter.all false
set_option maxRecDepth 100000
namespace Go.Proofs.Ytecdilijcjgjmaa
open Go Go.RowKit

set_option maxHeartbeats 16000000 in
theorem outc_any {w : World} {M : Nat} {A : Option Addr} {n c : Nat} {s : Ps} {LV : Value} {P : List (List Ev)} (hb : MBx w M A n c (mcP s) LV) (hP : Prg w A n P) (hnc : n ≤ c) (hO : OkP P) (hR : PsR P s) :
    Calls Try.prog 48 #[.pointer (some ⟨M, 0, none⟩)] w fun e w' => e = .returned (.agg (endP P s)) ∧ Below w.heap.size w w' := by
  have h6 : n ≤ 6 := by rw [← hP.1]; exact hO.six
  have HLN := Lib.hid hP.1
  have HBT := Lib.hid (beg_lt hR hP.1)
  have HPR := Lib.hid hR
  have HOK := Lib.hid hO
  have HW1 := Lib.hid ((Bel.refl w).alloc (.cells z20 31))
  have HR1 := Lib.hid (Box.new w z20 31)
  have HB1 := Lib.hid (hb.bel HW1.out)
  have HP1 := Lib.hid (hP.bel HW1.out)
  have g0 := HB1.out.p
  clear hb hP hO hR
  go_enter Try.func48, Try.ntmps48
  go_upto_region 2 with fail
  change Code.wp _ _ _ _ (w.alloc (.cells z20 31))
  generalize w.alloc (.cells z20 31) = w1 at *
  have F0 := Lib.hid (show leftTo P s 0 = false from rfl)
  have F1 := Lib.hid (show goesTo P s 0 = false from rfl)
  go_wp2
  go_loopw [3, 4, 12] (fun q r t wr => ∃ i : Nat, i ≤ n ∧ t = .int .i64 i ∧ q = .bool (!leftTo P s i) ∧ r = .bool (!goesTo P s i) ∧ Bel w1 wr) (fun _ _ t _ => n - (intOf t).toNat)
  case atStart => exact ⟨0, by omega, rfl, by rw [F0.out]; rfl, by rw [F1.out]; rfl, Bel.refl _⟩
  case round =>
    obtain ⟨i, hi, rfl, rfl, rfl, hbr⟩ := hrel
    have HBR := Lib.hid hbr
    clear hbr g0
    by_cases hi1 : i < n
    · have hi2 : (i : Int) < n := by omega
      have hi6 : i < 6 := by omega
      have HPr := Lib.hid (HP1.out.bel HBR.out)
      have HBr := Lib.hid (HB1.out.bel HBR.out)
      have HLS := Lib.hid (leftTo_succ P s i)
      have HGS := Lib.hid (goesTo_succ P s i)
      have HMV := Lib.hid (more_val (P := P) (s := s) HPR.out i)
      have HNC := Lib.hid (show (decide (0 ≤ (i : Int)) && canP P s (i : Int).toNat) = canP P s i by rw [Int.toNat_natCast, decide_eq_true (by omega), Bool.true_and])
      generalize leftTo P s i = lf at *
      generalize goesTo P s i = gs at *
      generalize (begun s.L (i : Nat) && !decide (s.a i = (opsP P i).length)) = mv at *
      generalize canP P s i = cv at *
      cases lf
      · cases gs
        · go_upto_region 6 with (first | (refine list_bel 5 rfl ?_; (repeat (first | ((with_reducible refine BigFrame.wpQuiet_skip ?_ ?_); exact rfl; simp only [Act.put, Act.eval, List.setIfInBounds_toArray, List.set_cons_zero, List.set_cons_succ, Array.getD_eq_getD_getElem?, List.getElem?_toArray, List.getElem?_cons_zero, List.getElem?_cons_succ, Option.getD_some]) | (refine q_move _ rfl rfl ?_; simp only [Act.put, Act.eval, List.setIfInBounds_toArray, List.set_cons_zero, List.set_cons_succ, Array.getD_eq_getD_getElem?, List.getElem?_toArray, List.getElem?_cons_zero, List.getElem?_cons_succ, Option.getD_some]) | (refine q_assign _ rfl rfl ?_; simp only [Act.put, Act.eval, List.setIfInBounds_toArray, List.set_cons_zero, List.set_cons_succ, Array.getD_eq_getD_getElem?, List.getElem?_toArray, List.getElem?_cons_zero, List.getElem?_cons_succ, Option.getD_some]) | (refine q_any rfl ?_; apply Exists.intro; refine ⟨fun w hw => ?_, ?_⟩; (go_simp; first | exact ⟨rfl, rfl⟩ | rfl | (go_at_call 72; (with_reducible refine (morev_any i mv HMV.out (HBr.out.bel hw) (HPr.out.bel hw) hnc h6 hi6 (HBT.out i hi6)).mono ?_); rintro e w' ⟨rfl, hb⟩; exact ⟨rfl, hw.call hb⟩)); simp only [Act.put, Act.eval, List.setIfInBounds_toArray, List.set_cons_zero, List.set_cons_succ, Array.getD_eq_getD_getElem?, List.getElem?_toArray, List.getElem?_cons_zero, List.getElem?_cons_succ, Option.getD_some]))); refine wpQuiet_nil ?_; intro w2 hw2))
          have HWQ := Lib.hid hw2
          clear hw2
          go_wp2_with fail
          refine (mcanv_any (i : Nat) cv HNC.out (HBr.out.bel HWQ.out) (HPr.out.bel HWQ.out) hnc HOK.out HPR.out).mono ?_
          rintro e3 w3 ⟨rfl, hb3⟩
          have HW3 := Lib.hid (Bel.of hb3)
          clear hb3
          go_wp2
          go_roundw
          case rel => exact ⟨i + 1, by omega, by go_num, by rw [HLS.out]; simp, by rw [HGS.out]; simp, HBR.out.trans (HWQ.out.trans HW3.out)⟩
          case measure => simp [intOf]; omega
        · go_upto_region 6 with (first | (refine list_bel 5 rfl ?_; (repeat (first | ((with_reducible refine BigFrame.wpQuiet_skip ?_ ?_); exact rfl; simp only [Act.put, Act.eval, List.setIfInBounds_toArray, List.set_cons_zero, List.set_cons_succ, Array.getD_eq_getD_getElem?, List.getElem?_toArray, List.getElem?_cons_zero, List.getElem?_cons_succ, Option.getD_some]) | (refine q_move _ rfl rfl ?_; simp only [Act.put, Act.eval, List.setIfInBounds_toArray, List.set_cons_zero, List.set_cons_succ, Array.getD_eq_getD_getElem?, List.getElem?_toArray, List.getElem?_cons_zero, List.getElem?_cons_succ, Option.getD_some]) | (refine q_assign _ rfl rfl ?_; simp only [Act.put, Act.eval, List.setIfInBounds_toArray, List.set_cons_zero, List.set_cons_succ, Array.getD_eq_getD_getElem?, List.getElem?_toArray, List.getElem?_cons_zero, List.getElem?_cons_succ, Option.getD_some]) | (refine q_any rfl ?_; apply Exists.intro; refine ⟨fun w hw => ?_, ?_⟩; (go_simp; first | exact ⟨rfl, rfl⟩ | rfl | (go_at_call 72; (with_reducible refine (morev_any i mv HMV.out (HBr.out.bel hw) (HPr.out.bel hw) hnc h6 hi6 (HBT.out i hi6)).mono ?_); rintro e w' ⟨rfl, hb⟩; exact ⟨rfl, hw.call hb⟩)); simp only [Act.put, Act.eval, List.setIfInBounds_toArray, List.set_cons_zero, List.set_cons_succ, Array.getD_eq_getD_getElem?, List.getElem?_toArray, List.getElem?_cons_zero, List.getElem?_cons_succ, Option.getD_some]))); refine wpQuiet_nil ?_; intro w2 hw2))
          have HWQ := Lib.hid hw2
          clear hw2
          go_wp2
          go_roundw
          case rel => exact ⟨i + 1, by omega, by go_num, by rw [HLS.out]; simp, by rw [HGS.out]; simp, HBR.out.trans HWQ.out⟩
          case measure => simp [intOf]; omega
      · cases gs
        · go_upto_region 6 with fail
          go_wp2_with fail
          refine (mcanv_any (i : Nat) cv HNC.out HBr.out HPr.out hnc HOK.out HPR.out).mono ?_
          rintro e3 w3 ⟨rfl, hb3⟩
          have HW3 := Lib.hid (Bel.of hb3)
          clear hb3
          go_wp2
          go_roundw
          case rel => exact ⟨i + 1, by omega, by go_num, by rw [HLS.out]; simp, by rw [HGS.out]; simp, HBR.out.trans HW3.out⟩
          case measure => simp [intOf]; omega
        · go_wp2
          go_roundw
          case rel => exact ⟨i + 1, by omega, by go_num, by rw [HLS.out]; simp, by rw [HGS.out]; simp, HBR.out⟩
          case measure => simp [intOf]; omega
    · obtain rfl : n = i := by omega
      have HD := Lib.hid (show doneP P s = !leftTo P s n by rw [done_left, HLN.out])
      have HK := Lib.hid (show stuckP P s = (leftTo P s n && !goesTo P s n) by rw [stuck_left, HLN.out])
      have HRn := Lib.hid (HBR.out.box HR1.out)
      have HWn := Lib.hid (HW1.out.trans HBR.out)
      have hrr := (HB1.out.bel HBR.out).endr
      have HX3 := Lib.hid (Box.new wr z20 31)
      have hne1 : w.heap.size ≠ wr.heap.size := by have := HRn.out.lt; omega
      go_upto_region 9 with (first | (refine load_row (show RowTy Try.prog 31 (endc (mcP s).m (mcP s).v (mcP s).h false false).length from TEnd) _ rfl rfl rfl hrr ?_) | (refine storeB 31 _ _ rfl rfl rfl rfl (Box.new wr z20 31) rfl (by exact TEnd) (by rw [← end_vs]; exact vs_all endF_one) ?_))
      change Code.wp _ _ _ _ ((wr.alloc (.cells z20 31)).setRow wr.heap.size (endc (mcP s).m (mcP s).v (mcP s).h false false).toArray)
      have HB3 := Lib.hid (show Bel wr ((wr.alloc (.cells z20 31)).setRow wr.heap.size (endc (mcP s).m (mcP s).v (mcP s).h false false).toArray) from ((Bel.refl wr).alloc (.cells z20 31)).setRow wr.heap.size (Nat.le_refl _) _)
      have HX3 := Lib.hid (show Box ((wr.alloc (.cells z20 31)).setRow wr.heap.size (endc (mcP s).m (mcP s).v (mcP s).h false false).toArray) wr.heap.size (vs 20 (endF (mcP s).m (mcP s).v (mcP s).h false false)) 31 by rw [end_vs]; exact (Box.new wr z20 31).setRow _)
      have HW3 := Lib.hid (HWn.out.trans HB3.out)
      have HR3 := Lib.hid (HB3.out.box HRn.out)
      have hle2 : w.heap.size ≤ wr.heap.size := HWn.out.size
      clear hrr HB3 HWn HRn
      generalize ((wr.alloc (.cells z20 31)).setRow wr.heap.size (endc (mcP s).m (mcP s).v (mcP s).h false false).toArray) = w3 at *
      generalize wr.heap.size = E at *
      have e18 := HX3.out.cell 18 (vs_get _ (by omega))
      have z18 := HX3.out.frozen 18
      generalize leftTo P s n = lf at *
      generalize goesTo P s n = gs at *
      cases lf
      · cases gs
        · have hb1 := HX3.out.set 18 (.bool true)
          have e19 := hb1.cell 19 (v := .bool false) (by simp [vs]; rfl)
          have z19 := hb1.frozen 19
          have hb2 : Box ((w3.setCell ⟨E, 18, none⟩ (.bool true)).setCell ⟨E, 19, none⟩ (.bool false)) E (vs 20 (endF (mcP s).m (mcP s).v (mcP s).h true false)) 31 := by have h := hb1.set 19 (.bool false); rw [vs_set, vs_set, vs_congr (g' := endF (mcP s).m (mcP s).v (mcP s).h true false) end_two] at h; exact h
          have hr2 : Box ((w3.setCell ⟨E, 18, none⟩ (.bool true)).setCell ⟨E, 19, none⟩ (.bool false)) w.heap.size z20 31 := (HR3.out.set_ne ⟨E, 18, none⟩ _ hne1).set_ne ⟨E, 19, none⟩ _ hne1
          have hw2 : Bel w ((w3.setCell ⟨E, 18, none⟩ (.bool true)).setCell ⟨E, 19, none⟩ (.bool false)) := (HW3.out.setCell ⟨E, 18, none⟩ (by dsimp only; omega) _).setCell ⟨E, 19, none⟩ (by dsimp only; omega) _
          have HW9 := Lib.hid hw2
          clear hw2 hb1
          go_wp2_with (first | (refine loadB 31 _ rfl rfl rfl hb2 (TEv _) ?_) | (refine storeB 31 _ _ rfl rfl rfl rfl hr2 (by rw [vs_size]; rfl) (TEv _) (vs_all endF_one) ?_))
          refine bodyPost_ret (res_c Try.results48 rfl (B := w.heap.size) (c := (vs 20 (endF (mcP s).m (mcP s).v (mcP s).h true false))) (t := 31) (hr2.setRow _) (TEv _)) rfl ⟨?_, (HW9.out.setRow w.heap.size (Nat.le_refl _) _).out⟩
          unfold endP
          rw [end_vs, HD.out, HK.out]
          rfl
        · have hb1 := HX3.out.set 18 (.bool true)
          have e19 := hb1.cell 19 (v := .bool false) (by simp [vs]; rfl)
          have z19 := hb1.frozen 19
          have hb2 : Box ((w3.setCell ⟨E, 18, none⟩ (.bool true)).setCell ⟨E, 19, none⟩ (.bool false)) E (vs 20 (endF (mcP s).m (mcP s).v (mcP s).h true false)) 31 := by have h := hb1.set 19 (.bool false); rw [vs_set, vs_set, vs_congr (g' := endF (mcP s).m (mcP s).v (mcP s).h true false) end_two] at h; exact h
          have hr2 : Box ((w3.setCell ⟨E, 18, none⟩ (.bool true)).setCell ⟨E, 19, none⟩ (.bool false)) w.heap.size z20 31 := (HR3.out.set_ne ⟨E, 18, none⟩ _ hne1).set_ne ⟨E, 19, none⟩ _ hne1
          have hw2 : Bel w ((w3.setCell ⟨E, 18, none⟩ (.bool true)).setCell ⟨E, 19, none⟩ (.bool false)) := (HW3.out.setCell ⟨E, 18, none⟩ (by dsimp only; omega) _).setCell ⟨E, 19, none⟩ (by dsimp only; omega) _
          have HW9 := Lib.hid hw2
          clear hw2 hb1
          go_wp2_with (first | (refine loadB 31 _ rfl rfl rfl hb2 (TEv _) ?_) | (refine storeB 31 _ _ rfl rfl rfl rfl hr2 (by rw [vs_size]; rfl) (TEv _) (vs_all endF_one) ?_))
          refine bodyPost_ret (res_c Try.results48 rfl (B := w.heap.size) (c := (vs 20 (endF (mcP s).m (mcP s).v (mcP s).h true false))) (t := 31) (hr2.setRow _) (TEv _)) rfl ⟨?_, (HW9.out.setRow w.heap.size (Nat.le_refl _) _).out⟩
          unfold endP
          rw [end_vs, HD.out, HK.out]
          rfl
      · cases gs
        · have hb1 := HX3.out.set 18 (.bool false)
          have e19 := hb1.cell 19 (v := .bool false) (by simp [vs]; rfl)
          have z19 := hb1.frozen 19
          have hb2 : Box ((w3.setCell ⟨E, 18, none⟩ (.bool false)).setCell ⟨E, 19, none⟩ (.bool true)) E (vs 20 (endF (mcP s).m (mcP s).v (mcP s).h false true)) 31 := by have h := hb1.set 19 (.bool true); rw [vs_set, vs_set, vs_congr (g' := endF (mcP s).m (mcP s).v (mcP s).h false true) end_two] at h; exact h
          have hr2 : Box ((w3.setCell ⟨E, 18, none⟩ (.bool false)).setCell ⟨E, 19, none⟩ (.bool true)) w.heap.size z20 31 := (HR3.out.set_ne ⟨E, 18, none⟩ _ hne1).set_ne ⟨E, 19, none⟩ _ hne1
          have hw2 : Bel w ((w3.setCell ⟨E, 18, none⟩ (.bool false)).setCell ⟨E, 19, none⟩ (.bool true)) := (HW3.out.setCell ⟨E, 18, none⟩ (by dsimp only; omega) _).setCell ⟨E, 19, none⟩ (by dsimp only; omega) _
          have HW9 := Lib.hid hw2
          clear hw2 hb1
          go_wp2_with (first | (refine loadB 31 _ rfl rfl rfl hb2 (TEv _) ?_) | (refine storeB 31 _ _ rfl rfl rfl rfl hr2 (by rw [vs_size]; rfl) (TEv _) (vs_all endF_one) ?_))
          refine bodyPost_ret (res_c Try.results48 rfl (B := w.heap.size) (c := (vs 20 (endF (mcP s).m (mcP s).v (mcP s).h false true))) (t := 31) (hr2.setRow _) (TEv _)) rfl ⟨?_, (HW9.out.setRow w.heap.size (Nat.le_refl _) _).out⟩
          unfold endP
          rw [end_vs, HD.out, HK.out]
          rfl
        · have hb1 := HX3.out.set 18 (.bool false)
          have e19 := hb1.cell 19 (v := .bool false) (by simp [vs]; rfl)
          have z19 := hb1.frozen 19
          have hb2 : Box ((w3.setCell ⟨E, 18, none⟩ (.bool false)).setCell ⟨E, 19, none⟩ (.bool false)) E (vs 20 (endF (mcP s).m (mcP s).v (mcP s).h false false)) 31 := by have h := hb1.set 19 (.bool false); rw [vs_set, vs_set, vs_congr (g' := endF (mcP s).m (mcP s).v (mcP s).h false false) end_two] at h; exact h
          have hr2 : Box ((w3.setCell ⟨E, 18, none⟩ (.bool false)).setCell ⟨E, 19, none⟩ (.bool false)) w.heap.size z20 31 := (HR3.out.set_ne ⟨E, 18, none⟩ _ hne1).set_ne ⟨E, 19, none⟩ _ hne1
          have hw2 : Bel w ((w3.setCell ⟨E, 18, none⟩ (.bool false)).setCell ⟨E, 19, none⟩ (.bool false)) := (HW3.out.setCell ⟨E, 18, none⟩ (by dsimp only; omega) _).setCell ⟨E, 19, none⟩ (by dsimp only; omega) _
          have HW9 := Lib.hid hw2
          clear hw2 hb1
          go_wp2_with (first | (refine loadB 31 _ rfl rfl rfl hb2 (TEv _) ?_) | (refine storeB 31 _ _ rfl rfl rfl rfl hr2 (by rw [vs_size]; rfl) (TEv _) (vs_all endF_one) ?_))
          refine bodyPost_ret (res_c Try.results48 rfl (B := w.heap.size) (c := (vs 20 (endF (mcP s).m (mcP s).v (mcP s).h false false))) (t := 31) (hr2.setRow _) (TEv _)) rfl ⟨?_, (HW9.out.setRow w.heap.size (Nat.le_refl _) _).out⟩
          unfold endP
          rw [end_vs, HD.out, HK.out]
          rfl
end Go.Proofs.Ytecdilijcjgjmaa
