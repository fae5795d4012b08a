/- 'deadheatkeep.SwapMoves' returns true for every input and leaves its arguments as they are. No condition. -/
import Derived.Test.YtjlomojhbjpdfaaOpen
import Derived.Test.YtjlomojhbjpdfaaSwU
import Derived.Test.YtjlomojhbjpdfaaSwS
import Derived.Test.YtjlomojhbjpdfaaGrow
import Derived.Test.YtjlomojhbjpdfaaKeepSw
import Derived.Test.YtjlomojhbjpdfaaMv
set_option linter.all false
set_option maxRecDepth 100000
namespace Go.Proofs.Ytjlomojhbjpdfaa.LSwapMoves
open Go Go.ChangeShapes Go.WideShapes Go.ChangeAt Go.RowKit

set_option maxHeartbeats 16000000 in
theorem walkH (HS : SwapC) (HA : ApartC) (HSa : SameC) (W : World) (A : Option Addr) (n c : Nat) (l : List Ev) (s : Sl W A n l) (m : n ≤ c) (x : c ≤ maxLen) (_g : ∀ e ∈ l, EvOk e) (i : Int) (ki : In64 i) :
    Calls Try.prog 14 #[.slice A n c, .int .i64 i] W fun e w' => e = .returned (.bool true) ∧ Below W.heap.size W w' := by
  have hw0 : Bel W W := Bel.refl _
  have HL := Lib.hid s
  have HMX := Lib.hid (And.intro m x)
  have HSW := Lib.hid (fun w => swapped_any HS HA w)
  have HSC := Lib.hid HS
  have HSM := Lib.hid HSa
  unfold ApartC at HA
  have HAC := Lib.hid HA
  have HK := Lib.hid ki
  clear s m x HS HA HSa ki
  cases h1 : (may l == 0)
  · go_enter Try.func14, Try.ntmps14
    go_wp2_with fail
    refine (HSW.out _).mono ?_
    rintro e1 w1 ⟨rfl, hb1⟩
    have hw1 := hw0.call hb1
    clear hb1
    go_wp2_with fail
    refine (may_any A n c l _ (HL.out.bel hw1)).mono ?_
    rintro e2 w2 ⟨rfl, hb2⟩
    have hw2 := hw1.call hb2
    clear hb2
    go_wp2
    go_ret
    exact ⟨rfl, hw2⟩
  · have HM := Lib.hid (eq_of_beq h1)
    have hn80 : n ≤ 80 := by rw [← HL.out.1]; exact ((may_iff l).1 HM.out).1
    by_cases hn0 : n = 0
    · subst hn0
      go_enter Try.func14, Try.ntmps14
      go_wp2_with fail
      refine (HSW.out _).mono ?_
      rintro e1 w1 ⟨rfl, hb1⟩
      have hw1 := hw0.call hb1
      clear hb1
      go_wp2_with fail
      refine (may_any A 0 c l _ (HL.out.bel hw1)).mono ?_
      rintro e2 w2 ⟨rfl, hb2⟩
      have hw2 := hw1.call hb2
      clear hb2
      go_wp2
      go_ret
      exact ⟨rfl, hw2⟩
    · have hk0 := Int.emod_nonneg i (show (n : Int) ≠ 0 by omega)
      have hk1 := Int.emod_lt_of_pos i (show (0 : Int) < n by omega)
      have HRT := Lib.hid (fun w => rest_any i n HK.out (by omega) (by omega) w)
      generalize i % (n : Int) = i' at *
      obtain ⟨j, rfl⟩ := Int.eq_ofNat_of_zero_le hk0
      have hj : j < n := by omega
      have hnz : ((n : Int) == 0) = false := by simp; omega
      obtain ⟨b, o, e, rfl, gb, he, re⟩ := HL.out.at_ hj
      have HE := Lib.hid he
      have HRE := Lib.hid (fun (w' : World) (h : Bel W w') => rangeAt_below h.out gb re)
      have HMS := Lib.hid (mv_self he)
      obtain ⟨i0, hi0, hz0, hz1, hz2⟩ := info_parts ev_info
      clear hk0 hk1 h1 he re gb hn0
      go_enter Try.func14, Try.ntmps14
      go_wp2_with fail
      refine (HSW.out _).mono ?_
      rintro e1 w1 ⟨rfl, hb1⟩
      have hw1 := hw0.call hb1
      clear hb1
      go_wp2_with fail
      refine (may_any (some ⟨b, o, none⟩) n c l _ (HL.out.bel hw1)).mono ?_
      rintro e2 w2 ⟨rfl, hb2⟩
      have hw2 := hw1.call hb2
      clear hb2
      rw [HM.out]
      go_wp2_with fail
      refine (HRT.out _).mono ?_
      rintro _ _ ⟨rfl, rfl⟩
      have HW2 := Lib.hid hw2
      clear hw0 hw1 hw2
      go_wp2
      go_loopw [5, 6] (fun v t wr => ∃ (k : Nat) (A' : Option Addr) (d : Nat), k ≤ j ∧ t = .int .i64 k ∧ v = .slice A' n d ∧ Sl wr A' n (mvL l e k j) ∧ n ≤ d ∧ d ≤ maxLen ∧ Eqv l (mvL l e k j) ∧ Bel w2 wr) (fun _ t _ => (intOf t).toNat)
      case atStart => exact ⟨j, some ⟨b, o, none⟩, c, by omega, rfl, rfl, by rw [HMS.out]; exact HL.out.bel HW2.out, HMX.out.1, HMX.out.2, by rw [HMS.out]; exact .refl _, Bel.refl _⟩
      case round =>
        obtain ⟨k, A', d, hk, rfl, rfl, hs, hnd, hdm, heq, hbr⟩ := hrel
        have HS := Lib.hid hs
        have HD := Lib.hid (And.intro hnd hdm)
        have HQ := Lib.hid heq
        have HB := Lib.hid hbr
        clear hs hnd hdm heq hbr
        by_cases hk0 : k = 0
        · have h00 : ¬ 0 < k := by omega
          have h02 : decide ((0 : Int) < (k : Int)) = false := decide_eq_false (by omega)
          clear hk0
          go_wp2
          (refine region_bel (by kernel_rfl) (by kernel_rfl) ?_; (repeat (first | ((with_reducible refine BigFrame.wpQuiet_skip ?_ ?_); exact rfl; simp only [Act.put, Act.eval, List.setIfInBounds_toArray, List.set_cons_zero, List.set_cons_succ, Array.getD_eq_getD_getElem?, List.getElem?_toArray, List.getElem?_cons_zero, List.getElem?_cons_succ, Option.getD_some]) | (refine q_move _ rfl rfl ?_; simp only [Act.put, Act.eval, List.setIfInBounds_toArray, List.set_cons_zero, List.set_cons_succ, Array.getD_eq_getD_getElem?, List.getElem?_toArray, List.getElem?_cons_zero, List.getElem?_cons_succ, Option.getD_some]) | (refine q_assign _ rfl rfl ?_; simp only [Act.put, Act.eval, List.setIfInBounds_toArray, List.set_cons_zero, List.set_cons_succ, Array.getD_eq_getD_getElem?, List.getElem?_toArray, List.getElem?_cons_zero, List.getElem?_cons_succ, Option.getD_some]) | (refine q_any rfl ?_; apply Exists.intro; refine ⟨fun w hw => ?_, ?_⟩; (go_simp; first | exact ⟨rfl, rfl⟩ | rfl); simp only [Act.put, Act.eval, List.setIfInBounds_toArray, List.set_cons_zero, List.set_cons_succ, Array.getD_eq_getD_getElem?, List.getElem?_toArray, List.getElem?_cons_zero, List.getElem?_cons_succ, Option.getD_some]))); refine wpQuiet_nil ?_; intro w2 hw2)
          have HS3 := Lib.hid (HS.out.bel hw2.out)
          have HBW := Lib.hid ((HW2.out.trans HB.out).trans hw2)
          clear hw2 h02
          have HLC := Lib.hid (HL.out.bel HBW.out.out)
          have HREC := Lib.hid (fun (w' : World) (h : Bel w2 w') => HRE.out w' (HBW.out.trans h))
          have hnc := HMX.out.1
          have HSA := Lib.hid (show Sl w2 (some ⟨b, o, none⟩) k (l.take k) from (HLC.out).take (by omega))
          have HSB0 := Sl.drop (c := c) (j := k) ((HLC.out).take (show j ≤ n by omega)) hk (show j ≤ c by omega)
          have HSD0 := Sl.drop (c := c) (j := j + 1) HLC.out (by omega) HMX.out.1
          simp only [Option.map_some, Addr.add_lit] at HSB0 HSD0
          have HLA := Lib.hid (show (evc (l.take k)).length = k * 3 by rw [evc_length, List.length_take, HL.out.1]; omega)
          have HLB := Lib.hid (show (evc ((l.take j).drop k)).length = (j - k) * 3 by rw [evc_length, List.length_drop, List.length_take, HL.out.1]; omega)
          have HLD := Lib.hid (show (evc (l.drop (j + 1))).length = (n - (j + 1)) * 3 by rw [evc_length, List.length_drop, HL.out.1])
          have HSM9 := Lib.hid (show Sl w2 A' n (mvL l e k j) from HS3.out)
          have HSE := Lib.hid (show sameB l (mvL l e k j) = true ∧ sameE l (mvL l e k j) = 0 from by have h := sameB_yes HM.out (HQ.out.may HM.out); exact ⟨by rw [h.1, decide_eq_true_iff]; exact eqv_least HQ.out, h.2⟩)
          have hw8 : IntKind.i64.wrap ((j : Int) + 1) = (j : Int) + 1 := IntWalk.i64_in _ (by omega)
          have hj1 : (j : Int) + 1 ≤ n := by omega
          have hkj : (k : Int) ≤ j := by omega
          have hjc : (j : Int) ≤ c := by omega
          have hkc : (k : Int) ≤ c := by omega
          have hjn2 : (j : Int) < n := by omega
          go_wp2
          refine region_grow (by kernel_rfl) ?_
          have FE := fun (w1 : World) (h1 : Below w2.heap.size w2 w1) => HREC.out w1 (Bel.of h1)
          (repeat (first | (refine wpG_go 0 (by simp only [List.getElem?_toArray, List.getElem?_cons_zero, List.getElem?_cons_succ] <;> rfl) (by decide +kernel) (by decide +kernel) (by kernel_rfl) (by rfl) (by exact fun _ _ _ _ h => h) (Nat.le_refl _) ?_; apply Exists.intro; refine ⟨fun w1 h1 => ?_, ?_⟩; (first | exact g_move _ rfl | exact g_assign _ rfl | exact g_load_mid _ _ rfl rfl (FE w1 h1) T36 (evv e) rfl | (go_simp; first | exact ⟨rfl, rfl⟩ | rfl)); simp only [Act.put, Act.eval, List.setIfInBounds_toArray, List.set_cons_zero, List.set_cons_succ, Array.getD_eq_getD_getElem?, List.getElem?_toArray, List.getElem?_cons_zero, List.getElem?_cons_succ, Option.getD_some]) | (refine wpG_go 1 (by simp only [List.getElem?_toArray, List.getElem?_cons_zero, List.getElem?_cons_succ] <;> rfl) (by decide +kernel) (by decide +kernel) (by kernel_rfl) (by rfl) (by exact fun _ _ _ _ h => h) (Nat.le_refl _) ?_; apply Exists.intro; refine ⟨fun w1 h1 => ?_, ?_⟩; (first | exact g_move _ rfl | exact g_assign _ rfl | exact g_load_mid _ _ rfl rfl (FE w1 h1) T36 (evv e) rfl | (go_simp; first | exact ⟨rfl, rfl⟩ | rfl)); simp only [Act.put, Act.eval, List.setIfInBounds_toArray, List.set_cons_zero, List.set_cons_succ, Array.getD_eq_getD_getElem?, List.getElem?_toArray, List.getElem?_cons_zero, List.getElem?_cons_succ, Option.getD_some]) | (refine wpG_go 2 (by simp only [List.getElem?_toArray, List.getElem?_cons_zero, List.getElem?_cons_succ] <;> rfl) (by decide +kernel) (by decide +kernel) (by kernel_rfl) (by rfl) (by exact fun _ _ _ _ h => h) (Nat.le_refl _) ?_; apply Exists.intro; refine ⟨fun w1 h1 => ?_, ?_⟩; (first | exact g_move _ rfl | exact g_assign _ rfl | exact g_load_mid _ _ rfl rfl (FE w1 h1) T36 (evv e) rfl | (go_simp; first | exact ⟨rfl, rfl⟩ | rfl)); simp only [Act.put, Act.eval, List.setIfInBounds_toArray, List.set_cons_zero, List.set_cons_succ, Array.getD_eq_getD_getElem?, List.getElem?_toArray, List.getElem?_cons_zero, List.getElem?_cons_succ, Option.getD_some]) | (refine wpG_go 4 (by simp only [List.getElem?_toArray, List.getElem?_cons_zero, List.getElem?_cons_succ] <;> rfl) (by decide +kernel) (by decide +kernel) (by kernel_rfl) (by rfl) (by exact fun _ _ _ _ h => h) (Nat.le_refl _) ?_; apply Exists.intro; refine ⟨fun w1 h1 => ?_, ?_⟩; (first | exact g_move _ rfl | exact g_assign _ rfl | exact g_load_mid _ _ rfl rfl (FE w1 h1) T36 (evv e) rfl | (go_simp; first | exact ⟨rfl, rfl⟩ | rfl)); simp only [Act.put, Act.eval, List.setIfInBounds_toArray, List.set_cons_zero, List.set_cons_succ, Array.getD_eq_getD_getElem?, List.getElem?_toArray, List.getElem?_cons_zero, List.getElem?_cons_succ, Option.getD_some]) | (refine wpG_go 5 (by simp only [List.getElem?_toArray, List.getElem?_cons_zero, List.getElem?_cons_succ] <;> rfl) (by decide +kernel) (by decide +kernel) (by kernel_rfl) (by rfl) (by exact fun _ _ _ _ h => h) (Nat.le_refl _) ?_; apply Exists.intro; refine ⟨fun w1 h1 => ?_, ?_⟩; (first | exact g_move _ rfl | exact g_assign _ rfl | exact g_load_mid _ _ rfl rfl (FE w1 h1) T36 (evv e) rfl | (go_simp; first | exact ⟨rfl, rfl⟩ | rfl)); simp only [Act.put, Act.eval, List.setIfInBounds_toArray, List.set_cons_zero, List.set_cons_succ, Array.getD_eq_getD_getElem?, List.getElem?_toArray, List.getElem?_cons_zero, List.getElem?_cons_succ, Option.getD_some]) | (refine wpG_go 6 (by simp only [List.getElem?_toArray, List.getElem?_cons_zero, List.getElem?_cons_succ] <;> rfl) (by decide +kernel) (by decide +kernel) (by kernel_rfl) (by rfl) (by exact fun _ _ _ _ h => h) (Nat.le_refl _) ?_; apply Exists.intro; refine ⟨fun w1 h1 => ?_, ?_⟩; (first | exact g_move _ rfl | exact g_assign _ rfl | exact g_load_mid _ _ rfl rfl (FE w1 h1) T36 (evv e) rfl | (go_simp; first | exact ⟨rfl, rfl⟩ | rfl)); simp only [Act.put, Act.eval, List.setIfInBounds_toArray, List.set_cons_zero, List.set_cons_succ, Array.getD_eq_getD_getElem?, List.getElem?_toArray, List.getElem?_cons_zero, List.getElem?_cons_succ, Option.getD_some]) | (refine wpG_go 7 (by simp only [List.getElem?_toArray, List.getElem?_cons_zero, List.getElem?_cons_succ] <;> rfl) (by decide +kernel) (by decide +kernel) (by kernel_rfl) (by rfl) (by exact fun _ _ _ _ h => h) (Nat.le_refl _) ?_; apply Exists.intro; refine ⟨fun w1 h1 => ?_, ?_⟩; (first | exact g_move _ rfl | exact g_assign _ rfl | exact g_load_mid _ _ rfl rfl (FE w1 h1) T36 (evv e) rfl | (go_simp; first | exact ⟨rfl, rfl⟩ | rfl)); simp only [Act.put, Act.eval, List.setIfInBounds_toArray, List.set_cons_zero, List.set_cons_succ, Array.getD_eq_getD_getElem?, List.getElem?_toArray, List.getElem?_cons_zero, List.getElem?_cons_succ, Option.getD_some]) | (refine wpG_go 10 (by simp only [List.getElem?_toArray, List.getElem?_cons_zero, List.getElem?_cons_succ] <;> rfl) (by decide +kernel) (by decide +kernel) (by kernel_rfl) (by rfl) (by exact fun _ _ _ _ h => h) (Nat.le_refl _) ?_; apply Exists.intro; refine ⟨fun w1 h1 => ?_, ?_⟩; (first | exact g_move _ rfl | exact g_assign _ rfl | exact g_load_mid _ _ rfl rfl (FE w1 h1) T36 (evv e) rfl | (go_simp; first | exact ⟨rfl, rfl⟩ | rfl)); simp only [Act.put, Act.eval, List.setIfInBounds_toArray, List.set_cons_zero, List.set_cons_succ, Array.getD_eq_getD_getElem?, List.getElem?_toArray, List.getElem?_cons_zero, List.getElem?_cons_succ, Option.getD_some]) | (refine wpG_go 11 (by simp only [List.getElem?_toArray, List.getElem?_cons_zero, List.getElem?_cons_succ] <;> rfl) (by decide +kernel) (by decide +kernel) (by kernel_rfl) (by rfl) (by exact fun _ _ _ _ h => h) (Nat.le_refl _) ?_; apply Exists.intro; refine ⟨fun w1 h1 => ?_, ?_⟩; (first | exact g_move _ rfl | exact g_assign _ rfl | exact g_load_mid _ _ rfl rfl (FE w1 h1) T36 (evv e) rfl | (go_simp; first | exact ⟨rfl, rfl⟩ | rfl)); simp only [Act.put, Act.eval, List.setIfInBounds_toArray, List.set_cons_zero, List.set_cons_succ, Array.getD_eq_getD_getElem?, List.getElem?_toArray, List.getElem?_cons_zero, List.getElem?_cons_succ, Option.getD_some]) | (refine wpG_go 12 (by simp only [List.getElem?_toArray, List.getElem?_cons_zero, List.getElem?_cons_succ] <;> rfl) (by decide +kernel) (by decide +kernel) (by kernel_rfl) (by rfl) (by exact fun _ _ _ _ h => h) (Nat.le_refl _) ?_; apply Exists.intro; refine ⟨fun w1 h1 => ?_, ?_⟩; (first | exact g_move _ rfl | exact g_assign _ rfl | exact g_load_mid _ _ rfl rfl (FE w1 h1) T36 (evv e) rfl | (go_simp; first | exact ⟨rfl, rfl⟩ | rfl)); simp only [Act.put, Act.eval, List.setIfInBounds_toArray, List.set_cons_zero, List.set_cons_succ, Array.getD_eq_getD_getElem?, List.getElem?_toArray, List.getElem?_cons_zero, List.getElem?_cons_succ, Option.getD_some]) | (refine wpG_go 13 (by simp only [List.getElem?_toArray, List.getElem?_cons_zero, List.getElem?_cons_succ] <;> rfl) (by decide +kernel) (by decide +kernel) (by kernel_rfl) (by rfl) (by exact fun _ _ _ _ h => h) (Nat.le_refl _) ?_; apply Exists.intro; refine ⟨fun w1 h1 => ?_, ?_⟩; (first | exact g_move _ rfl | exact g_assign _ rfl | exact g_load_mid _ _ rfl rfl (FE w1 h1) T36 (evv e) rfl | (go_simp; first | exact ⟨rfl, rfl⟩ | rfl)); simp only [Act.put, Act.eval, List.setIfInBounds_toArray, List.set_cons_zero, List.set_cons_succ, Array.getD_eq_getD_getElem?, List.getElem?_toArray, List.getElem?_cons_zero, List.getElem?_cons_succ, Option.getD_some]) | (refine wpG_go 15 (by simp only [List.getElem?_toArray, List.getElem?_cons_zero, List.getElem?_cons_succ] <;> rfl) (by decide +kernel) (by decide +kernel) (by kernel_rfl) (by rfl) (by exact fun _ _ _ _ h => h) (Nat.le_refl _) ?_; apply Exists.intro; refine ⟨fun w1 h1 => ?_, ?_⟩; (first | exact g_move _ rfl | exact g_assign _ rfl | exact g_load_mid _ _ rfl rfl (FE w1 h1) T36 (evv e) rfl | (go_simp; first | exact ⟨rfl, rfl⟩ | rfl)); simp only [Act.put, Act.eval, List.setIfInBounds_toArray, List.set_cons_zero, List.set_cons_succ, Array.getD_eq_getD_getElem?, List.getElem?_toArray, List.getElem?_cons_zero, List.getElem?_cons_succ, Option.getD_some]) | (refine wpG_go 16 (by simp only [List.getElem?_toArray, List.getElem?_cons_zero, List.getElem?_cons_succ] <;> rfl) (by decide +kernel) (by decide +kernel) (by kernel_rfl) (by rfl) (by exact fun _ _ _ _ h => h) (Nat.le_refl _) ?_; apply Exists.intro; refine ⟨fun w1 h1 => ?_, ?_⟩; (first | exact g_move _ rfl | exact g_assign _ rfl | exact g_load_mid _ _ rfl rfl (FE w1 h1) T36 (evv e) rfl | (go_simp; first | exact ⟨rfl, rfl⟩ | rfl)); simp only [Act.put, Act.eval, List.setIfInBounds_toArray, List.set_cons_zero, List.set_cons_succ, Array.getD_eq_getD_getElem?, List.getElem?_toArray, List.getElem?_cons_zero, List.getElem?_cons_succ, Option.getD_some]) | (refine wpG_go 17 (by simp only [List.getElem?_toArray, List.getElem?_cons_zero, List.getElem?_cons_succ] <;> rfl) (by decide +kernel) (by decide +kernel) (by kernel_rfl) (by rfl) (by exact fun _ _ _ _ h => h) (Nat.le_refl _) ?_; apply Exists.intro; refine ⟨fun w1 h1 => ?_, ?_⟩; (first | exact g_move _ rfl | exact g_assign _ rfl | exact g_load_mid _ _ rfl rfl (FE w1 h1) T36 (evv e) rfl | (go_simp; first | exact ⟨rfl, rfl⟩ | rfl)); simp only [Act.put, Act.eval, List.setIfInBounds_toArray, List.set_cons_zero, List.set_cons_succ, Array.getD_eq_getD_getElem?, List.getElem?_toArray, List.getElem?_cons_zero, List.getElem?_cons_succ, Option.getD_some]) | (refine wpG_go 18 (by simp only [List.getElem?_toArray, List.getElem?_cons_zero, List.getElem?_cons_succ] <;> rfl) (by decide +kernel) (by decide +kernel) (by kernel_rfl) (by rfl) (by exact fun _ _ _ _ h => h) (Nat.le_refl _) ?_; apply Exists.intro; refine ⟨fun w1 h1 => ?_, ?_⟩; (first | exact g_move _ rfl | exact g_assign _ rfl | exact g_load_mid _ _ rfl rfl (FE w1 h1) T36 (evv e) rfl | (go_simp; first | exact ⟨rfl, rfl⟩ | rfl)); simp only [Act.put, Act.eval, List.setIfInBounds_toArray, List.set_cons_zero, List.set_cons_succ, Array.getD_eq_getD_getElem?, List.getElem?_toArray, List.getElem?_cons_zero, List.getElem?_cons_succ, Option.getD_some]) | (refine wpG_skip 0 (by simp only [List.getElem?_toArray, List.getElem?_cons_zero, List.getElem?_cons_succ] <;> rfl) (by decide +kernel) (by decide +kernel) (by kernel_rfl) (by rfl) (by exact fun _ _ _ _ h => h) (Nat.le_refl _) ?_; simp only [Act.put, Act.eval, List.setIfInBounds_toArray, List.set_cons_zero, List.set_cons_succ, Array.getD_eq_getD_getElem?, List.getElem?_toArray, List.getElem?_cons_zero, List.getElem?_cons_succ, Option.getD_some]) | (refine wpG_skip 1 (by simp only [List.getElem?_toArray, List.getElem?_cons_zero, List.getElem?_cons_succ] <;> rfl) (by decide +kernel) (by decide +kernel) (by kernel_rfl) (by rfl) (by exact fun _ _ _ _ h => h) (Nat.le_refl _) ?_; simp only [Act.put, Act.eval, List.setIfInBounds_toArray, List.set_cons_zero, List.set_cons_succ, Array.getD_eq_getD_getElem?, List.getElem?_toArray, List.getElem?_cons_zero, List.getElem?_cons_succ, Option.getD_some]) | (refine wpG_skip 2 (by simp only [List.getElem?_toArray, List.getElem?_cons_zero, List.getElem?_cons_succ] <;> rfl) (by decide +kernel) (by decide +kernel) (by kernel_rfl) (by rfl) (by exact fun _ _ _ _ h => h) (Nat.le_refl _) ?_; simp only [Act.put, Act.eval, List.setIfInBounds_toArray, List.set_cons_zero, List.set_cons_succ, Array.getD_eq_getD_getElem?, List.getElem?_toArray, List.getElem?_cons_zero, List.getElem?_cons_succ, Option.getD_some]) | (refine wpG_skip 4 (by simp only [List.getElem?_toArray, List.getElem?_cons_zero, List.getElem?_cons_succ] <;> rfl) (by decide +kernel) (by decide +kernel) (by kernel_rfl) (by rfl) (by exact fun _ _ _ _ h => h) (Nat.le_refl _) ?_; simp only [Act.put, Act.eval, List.setIfInBounds_toArray, List.set_cons_zero, List.set_cons_succ, Array.getD_eq_getD_getElem?, List.getElem?_toArray, List.getElem?_cons_zero, List.getElem?_cons_succ, Option.getD_some]) | (refine wpG_skip 5 (by simp only [List.getElem?_toArray, List.getElem?_cons_zero, List.getElem?_cons_succ] <;> rfl) (by decide +kernel) (by decide +kernel) (by kernel_rfl) (by rfl) (by exact fun _ _ _ _ h => h) (Nat.le_refl _) ?_; simp only [Act.put, Act.eval, List.setIfInBounds_toArray, List.set_cons_zero, List.set_cons_succ, Array.getD_eq_getD_getElem?, List.getElem?_toArray, List.getElem?_cons_zero, List.getElem?_cons_succ, Option.getD_some]) | (refine wpG_skip 6 (by simp only [List.getElem?_toArray, List.getElem?_cons_zero, List.getElem?_cons_succ] <;> rfl) (by decide +kernel) (by decide +kernel) (by kernel_rfl) (by rfl) (by exact fun _ _ _ _ h => h) (Nat.le_refl _) ?_; simp only [Act.put, Act.eval, List.setIfInBounds_toArray, List.set_cons_zero, List.set_cons_succ, Array.getD_eq_getD_getElem?, List.getElem?_toArray, List.getElem?_cons_zero, List.getElem?_cons_succ, Option.getD_some]) | (refine wpG_skip 7 (by simp only [List.getElem?_toArray, List.getElem?_cons_zero, List.getElem?_cons_succ] <;> rfl) (by decide +kernel) (by decide +kernel) (by kernel_rfl) (by rfl) (by exact fun _ _ _ _ h => h) (Nat.le_refl _) ?_; simp only [Act.put, Act.eval, List.setIfInBounds_toArray, List.set_cons_zero, List.set_cons_succ, Array.getD_eq_getD_getElem?, List.getElem?_toArray, List.getElem?_cons_zero, List.getElem?_cons_succ, Option.getD_some]) | (refine wpG_skip 10 (by simp only [List.getElem?_toArray, List.getElem?_cons_zero, List.getElem?_cons_succ] <;> rfl) (by decide +kernel) (by decide +kernel) (by kernel_rfl) (by rfl) (by exact fun _ _ _ _ h => h) (Nat.le_refl _) ?_; simp only [Act.put, Act.eval, List.setIfInBounds_toArray, List.set_cons_zero, List.set_cons_succ, Array.getD_eq_getD_getElem?, List.getElem?_toArray, List.getElem?_cons_zero, List.getElem?_cons_succ, Option.getD_some]) | (refine wpG_skip 11 (by simp only [List.getElem?_toArray, List.getElem?_cons_zero, List.getElem?_cons_succ] <;> rfl) (by decide +kernel) (by decide +kernel) (by kernel_rfl) (by rfl) (by exact fun _ _ _ _ h => h) (Nat.le_refl _) ?_; simp only [Act.put, Act.eval, List.setIfInBounds_toArray, List.set_cons_zero, List.set_cons_succ, Array.getD_eq_getD_getElem?, List.getElem?_toArray, List.getElem?_cons_zero, List.getElem?_cons_succ, Option.getD_some]) | (refine wpG_skip 12 (by simp only [List.getElem?_toArray, List.getElem?_cons_zero, List.getElem?_cons_succ] <;> rfl) (by decide +kernel) (by decide +kernel) (by kernel_rfl) (by rfl) (by exact fun _ _ _ _ h => h) (Nat.le_refl _) ?_; simp only [Act.put, Act.eval, List.setIfInBounds_toArray, List.set_cons_zero, List.set_cons_succ, Array.getD_eq_getD_getElem?, List.getElem?_toArray, List.getElem?_cons_zero, List.getElem?_cons_succ, Option.getD_some]) | (refine wpG_skip 13 (by simp only [List.getElem?_toArray, List.getElem?_cons_zero, List.getElem?_cons_succ] <;> rfl) (by decide +kernel) (by decide +kernel) (by kernel_rfl) (by rfl) (by exact fun _ _ _ _ h => h) (Nat.le_refl _) ?_; simp only [Act.put, Act.eval, List.setIfInBounds_toArray, List.set_cons_zero, List.set_cons_succ, Array.getD_eq_getD_getElem?, List.getElem?_toArray, List.getElem?_cons_zero, List.getElem?_cons_succ, Option.getD_some]) | (refine wpG_skip 15 (by simp only [List.getElem?_toArray, List.getElem?_cons_zero, List.getElem?_cons_succ] <;> rfl) (by decide +kernel) (by decide +kernel) (by kernel_rfl) (by rfl) (by exact fun _ _ _ _ h => h) (Nat.le_refl _) ?_; simp only [Act.put, Act.eval, List.setIfInBounds_toArray, List.set_cons_zero, List.set_cons_succ, Array.getD_eq_getD_getElem?, List.getElem?_toArray, List.getElem?_cons_zero, List.getElem?_cons_succ, Option.getD_some]) | (refine wpG_skip 16 (by simp only [List.getElem?_toArray, List.getElem?_cons_zero, List.getElem?_cons_succ] <;> rfl) (by decide +kernel) (by decide +kernel) (by kernel_rfl) (by rfl) (by exact fun _ _ _ _ h => h) (Nat.le_refl _) ?_; simp only [Act.put, Act.eval, List.setIfInBounds_toArray, List.set_cons_zero, List.set_cons_succ, Array.getD_eq_getD_getElem?, List.getElem?_toArray, List.getElem?_cons_zero, List.getElem?_cons_succ, Option.getD_some]) | (refine wpG_skip 17 (by simp only [List.getElem?_toArray, List.getElem?_cons_zero, List.getElem?_cons_succ] <;> rfl) (by decide +kernel) (by decide +kernel) (by kernel_rfl) (by rfl) (by exact fun _ _ _ _ h => h) (Nat.le_refl _) ?_; simp only [Act.put, Act.eval, List.setIfInBounds_toArray, List.set_cons_zero, List.set_cons_succ, Array.getD_eq_getD_getElem?, List.getElem?_toArray, List.getElem?_cons_zero, List.getElem?_cons_succ, Option.getD_some]) | (refine wpG_skip 18 (by simp only [List.getElem?_toArray, List.getElem?_cons_zero, List.getElem?_cons_succ] <;> rfl) (by decide +kernel) (by decide +kernel) (by kernel_rfl) (by rfl) (by exact fun _ _ _ _ h => h) (Nat.le_refl _) ?_; simp only [Act.put, Act.eval, List.setIfInBounds_toArray, List.set_cons_zero, List.set_cons_succ, Array.getD_eq_getD_getElem?, List.getElem?_toArray, List.getElem?_cons_zero, List.getElem?_cons_succ, Option.getD_some])))
          generalize (if c = k then some (⟨b, o, none⟩ : Addr) else some ⟨b, o + k * 3, none⟩) = AB at *
          generalize (if c = j + 1 then some (⟨b, o, none⟩ : Addr) else some ⟨b, o + (j + 1) * 3, none⟩) = AD at *
          have HSB := Lib.hid HSB0
          have HSD := Lib.hid HSD0
          clear HSB0 HSD0 FE
          have hC0 : Bel w2 w2 := Bel.refl _
          (refine wpG_two 3 8 (by decide +kernel) ?_ ?_ <;> (intro y1 hy1; refine op_wanted (by simp only [List.getElem?_toArray, List.getElem?_cons_zero, List.getElem?_cons_succ] <;> rfl) rfl ?_))
          · skip
            have hE1 := hC0.trans hy1
            refine wp_append_src (.const (.slice none 0 0)) (.tmp 56) _ rfl w2.heap.size 23 i0 _ 3 24 Try.underlying25 hi0 hz0 hz1 hz2 rfl (by omega) (.slice none 0 0) 0 [] rfl (World.ownsRow_nil _ _ _ _) (some ⟨b, o, none⟩) k c (evc (l.take k)) rfl HLA.out (HSA.out.bel hE1.out).src (evc_one _) (by unfold maxLen; omega) (by omega) hE1.size ?_
            intro v1 u1 ho1 hg1 hat1
            refine ⟨grown_below hg1 (World.ownsRow_nil y1 w2.heap.size 23 3) (Nat.le_refl _) hE1.size, ?_⟩
            simp only [Act.put, Act.eval, List.setIfInBounds_toArray, List.set_cons_zero, List.set_cons_succ, Array.getD_eq_getD_getElem?, List.getElem?_toArray, List.getElem?_cons_zero, List.getElem?_cons_succ, Option.getD_some]
            have hC1 : Bel w2 u1 := Bel.of (hE1.out.trans (grown_below hg1 (World.ownsRow_nil y1 w2.heap.size 23 3) (Nat.le_refl _) hE1.size))
            rw [Nat.zero_add, List.nil_append] at ho1
            clear hg1 hat1
            (refine wpG_one 8 (by decide +kernel) ?_; intro y2 hy2; refine op_wanted (by simp only [List.getElem?_toArray, List.getElem?_cons_zero, List.getElem?_cons_succ] <;> rfl) rfl ?_)
            have hE2 := hC1.trans hy2
            have ho1 := own_bel ho1 hy2
            refine wp_build1 _ _ rfl _ i0 Try.underlying25 hi0 hz0 hz1 e rfl ⟨Below.alloc (Below.refl _ _) hE2.size _, ?_⟩
            simp only [Act.put, Act.eval, List.setIfInBounds_toArray, List.set_cons_zero, List.set_cons_succ, Array.getD_eq_getD_getElem?, List.getElem?_toArray, List.getElem?_cons_zero, List.getElem?_cons_succ, Option.getD_some]
            have bx := Box.new y2 (evv e) 23
            have hC2 := hE2.alloc (.cells (evv e) 23)
            have ho1 := own_bel ho1 ((Bel.refl y2).alloc (.cells (evv e) 23))
            generalize y2.heap.size = X1 at *
            generalize y2.alloc (.cells (evv e) 23) = u2 at *
            clear hE1 hC1 hE2 hy1 hy2
            (refine wpG_one 9 (by decide +kernel) ?_; intro y9 hy9; refine op_wanted (by simp only [List.getElem?_toArray, List.getElem?_cons_zero, List.getElem?_cons_succ] <;> rfl) rfl ?_)
            have hE9 := hC2.trans hy9
            have bx := hy9.box bx
            have ho1 := own_bel ho1 hy9
            refine wp_append_src (.tmp 57) (.tmp 62) _ rfl w2.heap.size 23 i0 _ 3 24 Try.underlying25 hi0 hz0 hz1 hz2 rfl (by omega) _ k (evc (l.take k)) rfl ho1 _ 1 1 (evc [e]) rfl rfl (Src.box (l := evc [e]) bx 1) (evc_one _) (by unfold maxLen; omega) (by omega) hE9.size ?_
            intro v9 u9 ho9 hg9 hat9
            refine ⟨grown_below hg9 ho1 (Nat.le_refl _) hE9.size, ?_⟩
            simp only [Act.put, Act.eval, List.setIfInBounds_toArray, List.set_cons_zero, List.set_cons_succ, Array.getD_eq_getD_getElem?, List.getElem?_toArray, List.getElem?_cons_zero, List.getElem?_cons_succ, Option.getD_some]
            have hC9 : Bel w2 u9 := Bel.of (hE9.out.trans (grown_below hg9 ho1 (Nat.le_refl _) hE9.size))
            rw [← evc_append] at ho9
            clear ho1 hg9 hat9 bx
            (refine wpG_one 14 (by decide +kernel) ?_; intro y14 hy14; refine op_wanted (by simp only [List.getElem?_toArray, List.getElem?_cons_zero, List.getElem?_cons_succ] <;> rfl) rfl ?_)
            have hE14 := hC9.trans hy14
            have ho9 := own_bel ho9 hy14
            refine wp_append_src (.tmp 63) (.tmp 67) _ rfl w2.heap.size 23 i0 _ 3 24 Try.underlying25 hi0 hz0 hz1 hz2 rfl (by omega) _ (k + 1) (evc (l.take k ++ [e])) rfl ho9 AB (j - k) (c - k) (evc ((l.take j).drop k)) rfl HLB.out (HSB.out.bel hE14.out).src (evc_one _) (by unfold maxLen; omega) (by omega) hE14.size ?_
            intro v14 u14 ho14 hg14 hat14
            refine ⟨grown_below hg14 ho9 (Nat.le_refl _) hE14.size, ?_⟩
            simp only [Act.put, Act.eval, List.setIfInBounds_toArray, List.set_cons_zero, List.set_cons_succ, Array.getD_eq_getD_getElem?, List.getElem?_toArray, List.getElem?_cons_zero, List.getElem?_cons_succ, Option.getD_some]
            have hC14 : Bel w2 u14 := Bel.of (hE14.out.trans (grown_below hg14 ho9 (Nat.le_refl _) hE14.size))
            rw [← evc_append] at ho14
            clear ho9 hg14 hat14
            (refine wpG_one 19 (by decide +kernel) ?_; intro y19 hy19; refine op_wanted (by simp only [List.getElem?_toArray, List.getElem?_cons_zero, List.getElem?_cons_succ] <;> rfl) rfl ?_)
            have hE19 := hC14.trans hy19
            have ho14 := own_bel ho14 hy19
            refine wp_append_src (.tmp 68) (.tmp 72) _ rfl w2.heap.size 23 i0 _ 3 24 Try.underlying25 hi0 hz0 hz1 hz2 rfl (by omega) _ (k + 1 + (j - k)) (evc (l.take k ++ [e] ++ (l.take j).drop k)) rfl ho14 AD (n - (j + 1)) (c - (j + 1)) (evc (l.drop (j + 1))) rfl HLD.out (HSD.out.bel hE19.out).src (evc_one _) (by unfold maxLen; omega) (by omega) hE19.size ?_
            intro v19 u19 ho19 hg19 hat19
            refine ⟨grown_below hg19 ho14 (Nat.le_refl _) hE19.size, ?_⟩
            simp only [Act.put, Act.eval, List.setIfInBounds_toArray, List.set_cons_zero, List.set_cons_succ, Array.getD_eq_getD_getElem?, List.getElem?_toArray, List.getElem?_cons_zero, List.getElem?_cons_succ, Option.getD_some]
            have hC19 : Bel w2 u19 := Bel.of (hE19.out.trans (grown_below hg19 ho14 (Nat.le_refl _) hE19.size))
            rw [← evc_append, show k + 1 + (j - k) + (n - (j + 1)) = n by omega, show l.take k ++ [e] ++ (l.take j).drop k ++ l.drop (j + 1) = mvL l e k j by unfold mvL; simp only [List.append_assoc, List.cons_append, List.nil_append]] at ho19
            clear ho14 hg19 hat19
            (repeat (first | (refine wpG_go 20 (by simp only [List.getElem?_toArray, List.getElem?_cons_zero, List.getElem?_cons_succ] <;> rfl) (by decide +kernel) (by decide +kernel) (by kernel_rfl) (by rfl) (by exact fun _ _ _ _ h => h) hC19.size ?_; apply Exists.intro; refine ⟨fun w1 h1 => ?_, ?_⟩; (first | exact g_move _ rfl | exact g_assign _ rfl | (go_simp; first | exact ⟨rfl, rfl⟩ | rfl)); simp only [Act.put, Act.eval, List.setIfInBounds_toArray, List.set_cons_zero, List.set_cons_succ, Array.getD_eq_getD_getElem?, List.getElem?_toArray, List.getElem?_cons_zero, List.getElem?_cons_succ, Option.getD_some]) | (refine wpG_skip 20 (by simp only [List.getElem?_toArray, List.getElem?_cons_zero, List.getElem?_cons_succ] <;> rfl) (by decide +kernel) (by decide +kernel) (by kernel_rfl) (by rfl) (by exact fun _ _ _ _ h => h) hC19.size ?_; simp only [Act.put, Act.eval, List.setIfInBounds_toArray, List.set_cons_zero, List.set_cons_succ, Array.getD_eq_getD_getElem?, List.getElem?_toArray, List.getElem?_cons_zero, List.getElem?_cons_succ, Option.getD_some])))
            (refine wpG_done (by decide +kernel) ?_ _; intro wz hwz; try simp only [Act.put, Act.eval, List.setIfInBounds_toArray, List.set_cons_zero, List.set_cons_succ, Array.getD_eq_getD_getElem?, List.getElem?_toArray, List.getElem?_cons_zero, List.getElem?_cons_succ, Option.getD_some])
            obtain ⟨Az, cz, rfl, sz, nz, mz⟩ := Sl.own (own_bel ho19 hwz)
            have HZ := Lib.hid (And.intro sz (And.intro nz mz))
            have HBZ := Lib.hid (HBW.out.trans (hC19.trans hwz))
            have HSZ := Lib.hid (HSM9.out.bel (hC19.trans hwz).out)
            clear ho19 hwz hC19 hC14 hC9 hE19 hE14 hE9 sz nz mz hC2 hy9 hy14 hy19 hC0
            go_wp2_with fail
            refine (HSM.out (some ⟨b, o, none⟩) n c l A' n d (mvL l e k j) _ (HL.out.bel HBZ.out.out) HMX.out.1 HMX.out.2 HSZ.out HD.out.1 HD.out.2).mono ?_
            rintro e5 w5 ⟨rfl, hb5⟩
            rw [HSE.out.1, HSE.out.2]
            have HB5 := Lib.hid (HBZ.out.call hb5)
            have HSZ5 := Lib.hid (HSZ.out.bel hb5)
            have HZ5 := Lib.hid (HZ.out.1.bel hb5)
            clear hb5
            go_wp2_with fail
            refine (eqev_any A' Az n d n cz (mvL l e k j) (mvL l e k j) _ HSZ5.out HZ5.out HD.out.1 HZ.out.2.1 HD.out.2 HZ.out.2.2).mono ?_
            rintro e6 w6 ⟨rfl, hb6⟩
            rw [decide_eq_true rfl]
            have HB6 := Lib.hid (HB5.out.call hb6)
            clear hb6
            go_wp2
            go_ret
            exact ⟨rfl, HB6.out⟩
          · skip
            have hE1 := hC0.trans hy1
            refine wp_build1 _ _ rfl _ i0 Try.underlying25 hi0 hz0 hz1 e rfl ⟨Below.alloc (Below.refl _ _) hE1.size _, ?_⟩
            simp only [Act.put, Act.eval, List.setIfInBounds_toArray, List.set_cons_zero, List.set_cons_succ, Array.getD_eq_getD_getElem?, List.getElem?_toArray, List.getElem?_cons_zero, List.getElem?_cons_succ, Option.getD_some]
            have bx := Box.new y1 (evv e) 23
            have hC1 := hE1.alloc (.cells (evv e) 23)
            generalize y1.heap.size = X1 at *
            generalize y1.alloc (.cells (evv e) 23) = u1 at *
            (refine wpG_one 3 (by decide +kernel) ?_; intro y2 hy2; refine op_wanted (by simp only [List.getElem?_toArray, List.getElem?_cons_zero, List.getElem?_cons_succ] <;> rfl) rfl ?_)
            have hE2 := hC1.trans hy2
            have bx := hy2.box bx
            refine wp_append_src (.const (.slice none 0 0)) (.tmp 56) _ rfl w2.heap.size 23 i0 _ 3 24 Try.underlying25 hi0 hz0 hz1 hz2 rfl (by omega) (.slice none 0 0) 0 [] rfl (World.ownsRow_nil _ _ _ _) (some ⟨b, o, none⟩) k c (evc (l.take k)) rfl HLA.out (HSA.out.bel hE2.out).src (evc_one _) (by unfold maxLen; omega) (by omega) hE2.size ?_
            intro v1 u2 ho1 hg1 hat1
            refine ⟨grown_below hg1 (World.ownsRow_nil y2 w2.heap.size 23 3) (Nat.le_refl _) hE2.size, ?_⟩
            simp only [Act.put, Act.eval, List.setIfInBounds_toArray, List.set_cons_zero, List.set_cons_succ, Array.getD_eq_getD_getElem?, List.getElem?_toArray, List.getElem?_cons_zero, List.getElem?_cons_succ, Option.getD_some]
            have hC2 : Bel w2 u2 := Bel.of (hE2.out.trans (grown_below hg1 (World.ownsRow_nil y2 w2.heap.size 23 3) (Nat.le_refl _) hE2.size))
            have bx := bx.grown hg1 (by intro h; cases h)
            rw [Nat.zero_add, List.nil_append] at ho1
            clear hg1 hat1 hE1 hC1 hE2 hy1 hy2
            (refine wpG_one 9 (by decide +kernel) ?_; intro y9 hy9; refine op_wanted (by simp only [List.getElem?_toArray, List.getElem?_cons_zero, List.getElem?_cons_succ] <;> rfl) rfl ?_)
            have hE9 := hC2.trans hy9
            have bx := hy9.box bx
            have ho1 := own_bel ho1 hy9
            refine wp_append_src (.tmp 57) (.tmp 62) _ rfl w2.heap.size 23 i0 _ 3 24 Try.underlying25 hi0 hz0 hz1 hz2 rfl (by omega) _ k (evc (l.take k)) rfl ho1 _ 1 1 (evc [e]) rfl rfl (Src.box (l := evc [e]) bx 1) (evc_one _) (by unfold maxLen; omega) (by omega) hE9.size ?_
            intro v9 u9 ho9 hg9 hat9
            refine ⟨grown_below hg9 ho1 (Nat.le_refl _) hE9.size, ?_⟩
            simp only [Act.put, Act.eval, List.setIfInBounds_toArray, List.set_cons_zero, List.set_cons_succ, Array.getD_eq_getD_getElem?, List.getElem?_toArray, List.getElem?_cons_zero, List.getElem?_cons_succ, Option.getD_some]
            have hC9 : Bel w2 u9 := Bel.of (hE9.out.trans (grown_below hg9 ho1 (Nat.le_refl _) hE9.size))
            rw [← evc_append] at ho9
            clear ho1 hg9 hat9 bx
            (refine wpG_one 14 (by decide +kernel) ?_; intro y14 hy14; refine op_wanted (by simp only [List.getElem?_toArray, List.getElem?_cons_zero, List.getElem?_cons_succ] <;> rfl) rfl ?_)
            have hE14 := hC9.trans hy14
            have ho9 := own_bel ho9 hy14
            refine wp_append_src (.tmp 63) (.tmp 67) _ rfl w2.heap.size 23 i0 _ 3 24 Try.underlying25 hi0 hz0 hz1 hz2 rfl (by omega) _ (k + 1) (evc (l.take k ++ [e])) rfl ho9 AB (j - k) (c - k) (evc ((l.take j).drop k)) rfl HLB.out (HSB.out.bel hE14.out).src (evc_one _) (by unfold maxLen; omega) (by omega) hE14.size ?_
            intro v14 u14 ho14 hg14 hat14
            refine ⟨grown_below hg14 ho9 (Nat.le_refl _) hE14.size, ?_⟩
            simp only [Act.put, Act.eval, List.setIfInBounds_toArray, List.set_cons_zero, List.set_cons_succ, Array.getD_eq_getD_getElem?, List.getElem?_toArray, List.getElem?_cons_zero, List.getElem?_cons_succ, Option.getD_some]
            have hC14 : Bel w2 u14 := Bel.of (hE14.out.trans (grown_below hg14 ho9 (Nat.le_refl _) hE14.size))
            rw [← evc_append] at ho14
            clear ho9 hg14 hat14
            (refine wpG_one 19 (by decide +kernel) ?_; intro y19 hy19; refine op_wanted (by simp only [List.getElem?_toArray, List.getElem?_cons_zero, List.getElem?_cons_succ] <;> rfl) rfl ?_)
            have hE19 := hC14.trans hy19
            have ho14 := own_bel ho14 hy19
            refine wp_append_src (.tmp 68) (.tmp 72) _ rfl w2.heap.size 23 i0 _ 3 24 Try.underlying25 hi0 hz0 hz1 hz2 rfl (by omega) _ (k + 1 + (j - k)) (evc (l.take k ++ [e] ++ (l.take j).drop k)) rfl ho14 AD (n - (j + 1)) (c - (j + 1)) (evc (l.drop (j + 1))) rfl HLD.out (HSD.out.bel hE19.out).src (evc_one _) (by unfold maxLen; omega) (by omega) hE19.size ?_
            intro v19 u19 ho19 hg19 hat19
            refine ⟨grown_below hg19 ho14 (Nat.le_refl _) hE19.size, ?_⟩
            simp only [Act.put, Act.eval, List.setIfInBounds_toArray, List.set_cons_zero, List.set_cons_succ, Array.getD_eq_getD_getElem?, List.getElem?_toArray, List.getElem?_cons_zero, List.getElem?_cons_succ, Option.getD_some]
            have hC19 : Bel w2 u19 := Bel.of (hE19.out.trans (grown_below hg19 ho14 (Nat.le_refl _) hE19.size))
            rw [← evc_append, show k + 1 + (j - k) + (n - (j + 1)) = n by omega, show l.take k ++ [e] ++ (l.take j).drop k ++ l.drop (j + 1) = mvL l e k j by unfold mvL; simp only [List.append_assoc, List.cons_append, List.nil_append]] at ho19
            clear ho14 hg19 hat19
            (repeat (first | (refine wpG_go 20 (by simp only [List.getElem?_toArray, List.getElem?_cons_zero, List.getElem?_cons_succ] <;> rfl) (by decide +kernel) (by decide +kernel) (by kernel_rfl) (by rfl) (by exact fun _ _ _ _ h => h) hC19.size ?_; apply Exists.intro; refine ⟨fun w1 h1 => ?_, ?_⟩; (first | exact g_move _ rfl | exact g_assign _ rfl | (go_simp; first | exact ⟨rfl, rfl⟩ | rfl)); simp only [Act.put, Act.eval, List.setIfInBounds_toArray, List.set_cons_zero, List.set_cons_succ, Array.getD_eq_getD_getElem?, List.getElem?_toArray, List.getElem?_cons_zero, List.getElem?_cons_succ, Option.getD_some]) | (refine wpG_skip 20 (by simp only [List.getElem?_toArray, List.getElem?_cons_zero, List.getElem?_cons_succ] <;> rfl) (by decide +kernel) (by decide +kernel) (by kernel_rfl) (by rfl) (by exact fun _ _ _ _ h => h) hC19.size ?_; simp only [Act.put, Act.eval, List.setIfInBounds_toArray, List.set_cons_zero, List.set_cons_succ, Array.getD_eq_getD_getElem?, List.getElem?_toArray, List.getElem?_cons_zero, List.getElem?_cons_succ, Option.getD_some])))
            (refine wpG_done (by decide +kernel) ?_ _; intro wz hwz; try simp only [Act.put, Act.eval, List.setIfInBounds_toArray, List.set_cons_zero, List.set_cons_succ, Array.getD_eq_getD_getElem?, List.getElem?_toArray, List.getElem?_cons_zero, List.getElem?_cons_succ, Option.getD_some])
            obtain ⟨Az, cz, rfl, sz, nz, mz⟩ := Sl.own (own_bel ho19 hwz)
            have HZ := Lib.hid (And.intro sz (And.intro nz mz))
            have HBZ := Lib.hid (HBW.out.trans (hC19.trans hwz))
            have HSZ := Lib.hid (HSM9.out.bel (hC19.trans hwz).out)
            clear ho19 hwz hC19 hC14 hC9 hE19 hE14 hE9 sz nz mz hC2 hy9 hy14 hy19 hC0
            go_wp2_with fail
            refine (HSM.out (some ⟨b, o, none⟩) n c l A' n d (mvL l e k j) _ (HL.out.bel HBZ.out.out) HMX.out.1 HMX.out.2 HSZ.out HD.out.1 HD.out.2).mono ?_
            rintro e5 w5 ⟨rfl, hb5⟩
            rw [HSE.out.1, HSE.out.2]
            have HB5 := Lib.hid (HBZ.out.call hb5)
            have HSZ5 := Lib.hid (HSZ.out.bel hb5)
            have HZ5 := Lib.hid (HZ.out.1.bel hb5)
            clear hb5
            go_wp2_with fail
            refine (eqev_any A' Az n d n cz (mvL l e k j) (mvL l e k j) _ HSZ5.out HZ5.out HD.out.1 HZ.out.2.1 HD.out.2 HZ.out.2.2).mono ?_
            rintro e6 w6 ⟨rfl, hb6⟩
            rw [decide_eq_true rfl]
            have HB6 := Lib.hid (HB5.out.call hb6)
            clear hb6
            go_wp2
            go_ret
            exact ⟨rfl, HB6.out⟩
        · have hkp : 0 < k := by omega
          obtain ⟨b', o', x, e9, gx, hx, rx⟩ := (HL.out.bel (HW2.out.trans HB.out)).at_ (show k - 1 < n by omega)
          cases e9
          have hq1 : ((k - 1 : Nat) : Int) < n := by omega
          have hjn : (j : Int) < n := by omega
          have hw3 : IntKind.i64.wrap ((k : Int) - 1) = ((k - 1 : Nat) : Int) := by rw [show ((k - 1 : Nat) : Int) = (k : Int) - 1 by omega]; exact IntWalk.i64_in _ (by omega)
          have hw4 : IntKind.i64.wrap (j : Int) = (j : Int) := IntWalk.i64_in _ (by omega)
          have R1 := Lib.hid (fun (w' : World) (h : Bel wr w') => rangeAt_below h.out gx rx)
          have R2 := Lib.hid (fun (w' : World) (h : Bel wr w') => HRE.out w' ((HW2.out.trans HB.out).trans h))
          have HA1 := Lib.hid (HAC.out x e)
          have HSTP := Lib.hid (fun (hd : dep x e = false) => show SwAt (k - 1) (mvL l e k j) (mvL l e (k - 1) j) by
            have h := mv_step (l := l) (e := e) (x := x) (k := k - 1) (j := j) (by omega) (by rw [HL.out.1]; exact hj) hx hd
            rwa [show k - 1 + 1 = k by omega] at h)
          clear hx gx rx
          cases hd : dep x e
          · have hat := HSTP.out hd
            have HA2 := HA1.out
            rw [hd] at HA2
            have HA3 := Lib.hid HA2
            have HBK := Lib.hid (show SwB (mvL l e k j) ((k - 1 : Nat) : Int) (mvL l e (k - 1) j) 0 from .inr (.inr (.inr ⟨HQ.out.may HM.out, ⟨k - 1, rfl, hat⟩, rfl⟩)))
            have HQ2 := Lib.hid (Eqv.step HQ.out hat.sw)
            have HLN := Lib.hid (show (mvL l e (k - 1) j).length = n by rw [← HQ2.out.length]; exact HL.out.1)
            clear HA2 hd hat
            go_wp2
            (refine region_bel (by kernel_rfl) (by kernel_rfl) ?_; (repeat (first | ((with_reducible refine BigFrame.wpQuiet_skip ?_ ?_); exact rfl; simp only [Act.put, Act.eval, List.setIfInBounds_toArray, List.set_cons_zero, List.set_cons_succ, Array.getD_eq_getD_getElem?, List.getElem?_toArray, List.getElem?_cons_zero, List.getElem?_cons_succ, Option.getD_some]) | (refine q_move _ rfl rfl ?_; simp only [Act.put, Act.eval, List.setIfInBounds_toArray, List.set_cons_zero, List.set_cons_succ, Array.getD_eq_getD_getElem?, List.getElem?_toArray, List.getElem?_cons_zero, List.getElem?_cons_succ, Option.getD_some]) | (refine q_assign _ rfl rfl ?_; simp only [Act.put, Act.eval, List.setIfInBounds_toArray, List.set_cons_zero, List.set_cons_succ, Array.getD_eq_getD_getElem?, List.getElem?_toArray, List.getElem?_cons_zero, List.getElem?_cons_succ, Option.getD_some]) | (refine q_load_mid _ _ rfl rfl rfl R1.out T36 (evv x) rfl ?_; simp only [Act.put, Act.eval, List.setIfInBounds_toArray, List.set_cons_zero, List.set_cons_succ, Array.getD_eq_getD_getElem?, List.getElem?_toArray, List.getElem?_cons_zero, List.getElem?_cons_succ, Option.getD_some]) | (refine q_load_mid _ _ rfl rfl rfl R2.out T36 (evv e) rfl ?_; simp only [Act.put, Act.eval, List.setIfInBounds_toArray, List.set_cons_zero, List.set_cons_succ, Array.getD_eq_getD_getElem?, List.getElem?_toArray, List.getElem?_cons_zero, List.getElem?_cons_succ, Option.getD_some]) | (refine q_any rfl ?_; apply Exists.intro; refine ⟨fun w hw => ?_, ?_⟩; (go_simp; first | exact ⟨rfl, rfl⟩ | rfl | (go_at_call 15; (with_reducible refine (HA3.out _).mono ?_); rintro e w' ⟨rfl, hb⟩; exact ⟨rfl, hw.call hb⟩)); simp only [Act.put, Act.eval, List.setIfInBounds_toArray, List.set_cons_zero, List.set_cons_succ, Array.getD_eq_getD_getElem?, List.getElem?_toArray, List.getElem?_cons_zero, List.getElem?_cons_succ, Option.getD_some]))); refine wpQuiet_nil ?_; intro w2 hw2)
            have HW3 := Lib.hid (HB.out.trans hw2)
            have HS3 := Lib.hid (HS.out.bel hw2)
            clear hw2
            go_wp2_with fail
            refine (HSC.out A' n d (mvL l e k j) ((k - 1 : Nat) : Int) _ HS3.out HD.out.1 HD.out.2 (by unfold In64; omega)).mono ?_
            rintro e4 w4 ⟨r4, c4, hB4, A4, n4, d4, rfl, hs4, hn4, hd4, hb4⟩
            obtain ⟨rfl, rfl⟩ := swB_uniq hB4 HBK.out
            have hnn : n4 = n := by rw [← hs4.1]; exact HLN.out
            subst hnn
            have HS4 := Lib.hid hs4
            have HD4 := Lib.hid (And.intro hn4 hd4)
            have HB4 := Lib.hid (HW3.out.call hb4)
            clear hB4 hs4 hn4 hd4 hb4
            go_wp2
            go_roundw
            case rel => exact ⟨k - 1, A4, d4, by omega, by go_num, rfl, HS4.out, HD4.out.1, HD4.out.2, HQ2.out, HB4.out⟩
            case measure => simp [intOf]; omega
          · have HA2 := HA1.out
            rw [hd] at HA2
            have HA3 := Lib.hid HA2
            clear HA2 hd
            go_wp2
            (refine region_bel (by kernel_rfl) (by kernel_rfl) ?_; (repeat (first | ((with_reducible refine BigFrame.wpQuiet_skip ?_ ?_); exact rfl; simp only [Act.put, Act.eval, List.setIfInBounds_toArray, List.set_cons_zero, List.set_cons_succ, Array.getD_eq_getD_getElem?, List.getElem?_toArray, List.getElem?_cons_zero, List.getElem?_cons_succ, Option.getD_some]) | (refine q_move _ rfl rfl ?_; simp only [Act.put, Act.eval, List.setIfInBounds_toArray, List.set_cons_zero, List.set_cons_succ, Array.getD_eq_getD_getElem?, List.getElem?_toArray, List.getElem?_cons_zero, List.getElem?_cons_succ, Option.getD_some]) | (refine q_assign _ rfl rfl ?_; simp only [Act.put, Act.eval, List.setIfInBounds_toArray, List.set_cons_zero, List.set_cons_succ, Array.getD_eq_getD_getElem?, List.getElem?_toArray, List.getElem?_cons_zero, List.getElem?_cons_succ, Option.getD_some]) | (refine q_load_mid _ _ rfl rfl rfl R1.out T36 (evv x) rfl ?_; simp only [Act.put, Act.eval, List.setIfInBounds_toArray, List.set_cons_zero, List.set_cons_succ, Array.getD_eq_getD_getElem?, List.getElem?_toArray, List.getElem?_cons_zero, List.getElem?_cons_succ, Option.getD_some]) | (refine q_load_mid _ _ rfl rfl rfl R2.out T36 (evv e) rfl ?_; simp only [Act.put, Act.eval, List.setIfInBounds_toArray, List.set_cons_zero, List.set_cons_succ, Array.getD_eq_getD_getElem?, List.getElem?_toArray, List.getElem?_cons_zero, List.getElem?_cons_succ, Option.getD_some]) | (refine q_any rfl ?_; apply Exists.intro; refine ⟨fun w hw => ?_, ?_⟩; (go_simp; first | exact ⟨rfl, rfl⟩ | rfl | (go_at_call 15; (with_reducible refine (HA3.out _).mono ?_); rintro e w' ⟨rfl, hb⟩; exact ⟨rfl, hw.call hb⟩)); simp only [Act.put, Act.eval, List.setIfInBounds_toArray, List.set_cons_zero, List.set_cons_succ, Array.getD_eq_getD_getElem?, List.getElem?_toArray, List.getElem?_cons_zero, List.getElem?_cons_succ, Option.getD_some]))); refine wpQuiet_nil ?_; intro w2 hw2)
            have HS3 := Lib.hid (HS.out.bel hw2.out)
            have HBW := Lib.hid ((HW2.out.trans HB.out).trans hw2)
            clear hw2 hw3 hw4 hq1 hjn hkp
            have HLC := Lib.hid (HL.out.bel HBW.out.out)
            have HREC := Lib.hid (fun (w' : World) (h : Bel w2 w') => HRE.out w' (HBW.out.trans h))
            have hnc := HMX.out.1
            have HSA := Lib.hid (show Sl w2 (some ⟨b, o, none⟩) k (l.take k) from (HLC.out).take (by omega))
            have HSB0 := Sl.drop (c := c) (j := k) ((HLC.out).take (show j ≤ n by omega)) hk (show j ≤ c by omega)
            have HSD0 := Sl.drop (c := c) (j := j + 1) HLC.out (by omega) HMX.out.1
            simp only [Option.map_some, Addr.add_lit] at HSB0 HSD0
            have HLA := Lib.hid (show (evc (l.take k)).length = k * 3 by rw [evc_length, List.length_take, HL.out.1]; omega)
            have HLB := Lib.hid (show (evc ((l.take j).drop k)).length = (j - k) * 3 by rw [evc_length, List.length_drop, List.length_take, HL.out.1]; omega)
            have HLD := Lib.hid (show (evc (l.drop (j + 1))).length = (n - (j + 1)) * 3 by rw [evc_length, List.length_drop, HL.out.1])
            have HSM9 := Lib.hid (show Sl w2 A' n (mvL l e k j) from HS3.out)
            have HSE := Lib.hid (show sameB l (mvL l e k j) = true ∧ sameE l (mvL l e k j) = 0 from by have h := sameB_yes HM.out (HQ.out.may HM.out); exact ⟨by rw [h.1, decide_eq_true_iff]; exact eqv_least HQ.out, h.2⟩)
            have hw8 : IntKind.i64.wrap ((j : Int) + 1) = (j : Int) + 1 := IntWalk.i64_in _ (by omega)
            have hj1 : (j : Int) + 1 ≤ n := by omega
            have hkj : (k : Int) ≤ j := by omega
            have hjc : (j : Int) ≤ c := by omega
            have hkc : (k : Int) ≤ c := by omega
            have hjn2 : (j : Int) < n := by omega
            go_wp2
            refine region_grow (by kernel_rfl) ?_
            have FE := fun (w1 : World) (h1 : Below w2.heap.size w2 w1) => HREC.out w1 (Bel.of h1)
            (repeat (first | (refine wpG_go 0 (by simp only [List.getElem?_toArray, List.getElem?_cons_zero, List.getElem?_cons_succ] <;> rfl) (by decide +kernel) (by decide +kernel) (by kernel_rfl) (by rfl) (by exact fun _ _ _ _ h => h) (Nat.le_refl _) ?_; apply Exists.intro; refine ⟨fun w1 h1 => ?_, ?_⟩; (first | exact g_move _ rfl | exact g_assign _ rfl | exact g_load_mid _ _ rfl rfl (FE w1 h1) T36 (evv e) rfl | (go_simp; first | exact ⟨rfl, rfl⟩ | rfl)); simp only [Act.put, Act.eval, List.setIfInBounds_toArray, List.set_cons_zero, List.set_cons_succ, Array.getD_eq_getD_getElem?, List.getElem?_toArray, List.getElem?_cons_zero, List.getElem?_cons_succ, Option.getD_some]) | (refine wpG_go 1 (by simp only [List.getElem?_toArray, List.getElem?_cons_zero, List.getElem?_cons_succ] <;> rfl) (by decide +kernel) (by decide +kernel) (by kernel_rfl) (by rfl) (by exact fun _ _ _ _ h => h) (Nat.le_refl _) ?_; apply Exists.intro; refine ⟨fun w1 h1 => ?_, ?_⟩; (first | exact g_move _ rfl | exact g_assign _ rfl | exact g_load_mid _ _ rfl rfl (FE w1 h1) T36 (evv e) rfl | (go_simp; first | exact ⟨rfl, rfl⟩ | rfl)); simp only [Act.put, Act.eval, List.setIfInBounds_toArray, List.set_cons_zero, List.set_cons_succ, Array.getD_eq_getD_getElem?, List.getElem?_toArray, List.getElem?_cons_zero, List.getElem?_cons_succ, Option.getD_some]) | (refine wpG_go 2 (by simp only [List.getElem?_toArray, List.getElem?_cons_zero, List.getElem?_cons_succ] <;> rfl) (by decide +kernel) (by decide +kernel) (by kernel_rfl) (by rfl) (by exact fun _ _ _ _ h => h) (Nat.le_refl _) ?_; apply Exists.intro; refine ⟨fun w1 h1 => ?_, ?_⟩; (first | exact g_move _ rfl | exact g_assign _ rfl | exact g_load_mid _ _ rfl rfl (FE w1 h1) T36 (evv e) rfl | (go_simp; first | exact ⟨rfl, rfl⟩ | rfl)); simp only [Act.put, Act.eval, List.setIfInBounds_toArray, List.set_cons_zero, List.set_cons_succ, Array.getD_eq_getD_getElem?, List.getElem?_toArray, List.getElem?_cons_zero, List.getElem?_cons_succ, Option.getD_some]) | (refine wpG_go 4 (by simp only [List.getElem?_toArray, List.getElem?_cons_zero, List.getElem?_cons_succ] <;> rfl) (by decide +kernel) (by decide +kernel) (by kernel_rfl) (by rfl) (by exact fun _ _ _ _ h => h) (Nat.le_refl _) ?_; apply Exists.intro; refine ⟨fun w1 h1 => ?_, ?_⟩; (first | exact g_move _ rfl | exact g_assign _ rfl | exact g_load_mid _ _ rfl rfl (FE w1 h1) T36 (evv e) rfl | (go_simp; first | exact ⟨rfl, rfl⟩ | rfl)); simp only [Act.put, Act.eval, List.setIfInBounds_toArray, List.set_cons_zero, List.set_cons_succ, Array.getD_eq_getD_getElem?, List.getElem?_toArray, List.getElem?_cons_zero, List.getElem?_cons_succ, Option.getD_some]) | (refine wpG_go 5 (by simp only [List.getElem?_toArray, List.getElem?_cons_zero, List.getElem?_cons_succ] <;> rfl) (by decide +kernel) (by decide +kernel) (by kernel_rfl) (by rfl) (by exact fun _ _ _ _ h => h) (Nat.le_refl _) ?_; apply Exists.intro; refine ⟨fun w1 h1 => ?_, ?_⟩; (first | exact g_move _ rfl | exact g_assign _ rfl | exact g_load_mid _ _ rfl rfl (FE w1 h1) T36 (evv e) rfl | (go_simp; first | exact ⟨rfl, rfl⟩ | rfl)); simp only [Act.put, Act.eval, List.setIfInBounds_toArray, List.set_cons_zero, List.set_cons_succ, Array.getD_eq_getD_getElem?, List.getElem?_toArray, List.getElem?_cons_zero, List.getElem?_cons_succ, Option.getD_some]) | (refine wpG_go 6 (by simp only [List.getElem?_toArray, List.getElem?_cons_zero, List.getElem?_cons_succ] <;> rfl) (by decide +kernel) (by decide +kernel) (by kernel_rfl) (by rfl) (by exact fun _ _ _ _ h => h) (Nat.le_refl _) ?_; apply Exists.intro; refine ⟨fun w1 h1 => ?_, ?_⟩; (first | exact g_move _ rfl | exact g_assign _ rfl | exact g_load_mid _ _ rfl rfl (FE w1 h1) T36 (evv e) rfl | (go_simp; first | exact ⟨rfl, rfl⟩ | rfl)); simp only [Act.put, Act.eval, List.setIfInBounds_toArray, List.set_cons_zero, List.set_cons_succ, Array.getD_eq_getD_getElem?, List.getElem?_toArray, List.getElem?_cons_zero, List.getElem?_cons_succ, Option.getD_some]) | (refine wpG_go 7 (by simp only [List.getElem?_toArray, List.getElem?_cons_zero, List.getElem?_cons_succ] <;> rfl) (by decide +kernel) (by decide +kernel) (by kernel_rfl) (by rfl) (by exact fun _ _ _ _ h => h) (Nat.le_refl _) ?_; apply Exists.intro; refine ⟨fun w1 h1 => ?_, ?_⟩; (first | exact g_move _ rfl | exact g_assign _ rfl | exact g_load_mid _ _ rfl rfl (FE w1 h1) T36 (evv e) rfl | (go_simp; first | exact ⟨rfl, rfl⟩ | rfl)); simp only [Act.put, Act.eval, List.setIfInBounds_toArray, List.set_cons_zero, List.set_cons_succ, Array.getD_eq_getD_getElem?, List.getElem?_toArray, List.getElem?_cons_zero, List.getElem?_cons_succ, Option.getD_some]) | (refine wpG_go 10 (by simp only [List.getElem?_toArray, List.getElem?_cons_zero, List.getElem?_cons_succ] <;> rfl) (by decide +kernel) (by decide +kernel) (by kernel_rfl) (by rfl) (by exact fun _ _ _ _ h => h) (Nat.le_refl _) ?_; apply Exists.intro; refine ⟨fun w1 h1 => ?_, ?_⟩; (first | exact g_move _ rfl | exact g_assign _ rfl | exact g_load_mid _ _ rfl rfl (FE w1 h1) T36 (evv e) rfl | (go_simp; first | exact ⟨rfl, rfl⟩ | rfl)); simp only [Act.put, Act.eval, List.setIfInBounds_toArray, List.set_cons_zero, List.set_cons_succ, Array.getD_eq_getD_getElem?, List.getElem?_toArray, List.getElem?_cons_zero, List.getElem?_cons_succ, Option.getD_some]) | (refine wpG_go 11 (by simp only [List.getElem?_toArray, List.getElem?_cons_zero, List.getElem?_cons_succ] <;> rfl) (by decide +kernel) (by decide +kernel) (by kernel_rfl) (by rfl) (by exact fun _ _ _ _ h => h) (Nat.le_refl _) ?_; apply Exists.intro; refine ⟨fun w1 h1 => ?_, ?_⟩; (first | exact g_move _ rfl | exact g_assign _ rfl | exact g_load_mid _ _ rfl rfl (FE w1 h1) T36 (evv e) rfl | (go_simp; first | exact ⟨rfl, rfl⟩ | rfl)); simp only [Act.put, Act.eval, List.setIfInBounds_toArray, List.set_cons_zero, List.set_cons_succ, Array.getD_eq_getD_getElem?, List.getElem?_toArray, List.getElem?_cons_zero, List.getElem?_cons_succ, Option.getD_some]) | (refine wpG_go 12 (by simp only [List.getElem?_toArray, List.getElem?_cons_zero, List.getElem?_cons_succ] <;> rfl) (by decide +kernel) (by decide +kernel) (by kernel_rfl) (by rfl) (by exact fun _ _ _ _ h => h) (Nat.le_refl _) ?_; apply Exists.intro; refine ⟨fun w1 h1 => ?_, ?_⟩; (first | exact g_move _ rfl | exact g_assign _ rfl | exact g_load_mid _ _ rfl rfl (FE w1 h1) T36 (evv e) rfl | (go_simp; first | exact ⟨rfl, rfl⟩ | rfl)); simp only [Act.put, Act.eval, List.setIfInBounds_toArray, List.set_cons_zero, List.set_cons_succ, Array.getD_eq_getD_getElem?, List.getElem?_toArray, List.getElem?_cons_zero, List.getElem?_cons_succ, Option.getD_some]) | (refine wpG_go 13 (by simp only [List.getElem?_toArray, List.getElem?_cons_zero, List.getElem?_cons_succ] <;> rfl) (by decide +kernel) (by decide +kernel) (by kernel_rfl) (by rfl) (by exact fun _ _ _ _ h => h) (Nat.le_refl _) ?_; apply Exists.intro; refine ⟨fun w1 h1 => ?_, ?_⟩; (first | exact g_move _ rfl | exact g_assign _ rfl | exact g_load_mid _ _ rfl rfl (FE w1 h1) T36 (evv e) rfl | (go_simp; first | exact ⟨rfl, rfl⟩ | rfl)); simp only [Act.put, Act.eval, List.setIfInBounds_toArray, List.set_cons_zero, List.set_cons_succ, Array.getD_eq_getD_getElem?, List.getElem?_toArray, List.getElem?_cons_zero, List.getElem?_cons_succ, Option.getD_some]) | (refine wpG_go 15 (by simp only [List.getElem?_toArray, List.getElem?_cons_zero, List.getElem?_cons_succ] <;> rfl) (by decide +kernel) (by decide +kernel) (by kernel_rfl) (by rfl) (by exact fun _ _ _ _ h => h) (Nat.le_refl _) ?_; apply Exists.intro; refine ⟨fun w1 h1 => ?_, ?_⟩; (first | exact g_move _ rfl | exact g_assign _ rfl | exact g_load_mid _ _ rfl rfl (FE w1 h1) T36 (evv e) rfl | (go_simp; first | exact ⟨rfl, rfl⟩ | rfl)); simp only [Act.put, Act.eval, List.setIfInBounds_toArray, List.set_cons_zero, List.set_cons_succ, Array.getD_eq_getD_getElem?, List.getElem?_toArray, List.getElem?_cons_zero, List.getElem?_cons_succ, Option.getD_some]) | (refine wpG_go 16 (by simp only [List.getElem?_toArray, List.getElem?_cons_zero, List.getElem?_cons_succ] <;> rfl) (by decide +kernel) (by decide +kernel) (by kernel_rfl) (by rfl) (by exact fun _ _ _ _ h => h) (Nat.le_refl _) ?_; apply Exists.intro; refine ⟨fun w1 h1 => ?_, ?_⟩; (first | exact g_move _ rfl | exact g_assign _ rfl | exact g_load_mid _ _ rfl rfl (FE w1 h1) T36 (evv e) rfl | (go_simp; first | exact ⟨rfl, rfl⟩ | rfl)); simp only [Act.put, Act.eval, List.setIfInBounds_toArray, List.set_cons_zero, List.set_cons_succ, Array.getD_eq_getD_getElem?, List.getElem?_toArray, List.getElem?_cons_zero, List.getElem?_cons_succ, Option.getD_some]) | (refine wpG_go 17 (by simp only [List.getElem?_toArray, List.getElem?_cons_zero, List.getElem?_cons_succ] <;> rfl) (by decide +kernel) (by decide +kernel) (by kernel_rfl) (by rfl) (by exact fun _ _ _ _ h => h) (Nat.le_refl _) ?_; apply Exists.intro; refine ⟨fun w1 h1 => ?_, ?_⟩; (first | exact g_move _ rfl | exact g_assign _ rfl | exact g_load_mid _ _ rfl rfl (FE w1 h1) T36 (evv e) rfl | (go_simp; first | exact ⟨rfl, rfl⟩ | rfl)); simp only [Act.put, Act.eval, List.setIfInBounds_toArray, List.set_cons_zero, List.set_cons_succ, Array.getD_eq_getD_getElem?, List.getElem?_toArray, List.getElem?_cons_zero, List.getElem?_cons_succ, Option.getD_some]) | (refine wpG_go 18 (by simp only [List.getElem?_toArray, List.getElem?_cons_zero, List.getElem?_cons_succ] <;> rfl) (by decide +kernel) (by decide +kernel) (by kernel_rfl) (by rfl) (by exact fun _ _ _ _ h => h) (Nat.le_refl _) ?_; apply Exists.intro; refine ⟨fun w1 h1 => ?_, ?_⟩; (first | exact g_move _ rfl | exact g_assign _ rfl | exact g_load_mid _ _ rfl rfl (FE w1 h1) T36 (evv e) rfl | (go_simp; first | exact ⟨rfl, rfl⟩ | rfl)); simp only [Act.put, Act.eval, List.setIfInBounds_toArray, List.set_cons_zero, List.set_cons_succ, Array.getD_eq_getD_getElem?, List.getElem?_toArray, List.getElem?_cons_zero, List.getElem?_cons_succ, Option.getD_some]) | (refine wpG_skip 0 (by simp only [List.getElem?_toArray, List.getElem?_cons_zero, List.getElem?_cons_succ] <;> rfl) (by decide +kernel) (by decide +kernel) (by kernel_rfl) (by rfl) (by exact fun _ _ _ _ h => h) (Nat.le_refl _) ?_; simp only [Act.put, Act.eval, List.setIfInBounds_toArray, List.set_cons_zero, List.set_cons_succ, Array.getD_eq_getD_getElem?, List.getElem?_toArray, List.getElem?_cons_zero, List.getElem?_cons_succ, Option.getD_some]) | (refine wpG_skip 1 (by simp only [List.getElem?_toArray, List.getElem?_cons_zero, List.getElem?_cons_succ] <;> rfl) (by decide +kernel) (by decide +kernel) (by kernel_rfl) (by rfl) (by exact fun _ _ _ _ h => h) (Nat.le_refl _) ?_; simp only [Act.put, Act.eval, List.setIfInBounds_toArray, List.set_cons_zero, List.set_cons_succ, Array.getD_eq_getD_getElem?, List.getElem?_toArray, List.getElem?_cons_zero, List.getElem?_cons_succ, Option.getD_some]) | (refine wpG_skip 2 (by simp only [List.getElem?_toArray, List.getElem?_cons_zero, List.getElem?_cons_succ] <;> rfl) (by decide +kernel) (by decide +kernel) (by kernel_rfl) (by rfl) (by exact fun _ _ _ _ h => h) (Nat.le_refl _) ?_; simp only [Act.put, Act.eval, List.setIfInBounds_toArray, List.set_cons_zero, List.set_cons_succ, Array.getD_eq_getD_getElem?, List.getElem?_toArray, List.getElem?_cons_zero, List.getElem?_cons_succ, Option.getD_some]) | (refine wpG_skip 4 (by simp only [List.getElem?_toArray, List.getElem?_cons_zero, List.getElem?_cons_succ] <;> rfl) (by decide +kernel) (by decide +kernel) (by kernel_rfl) (by rfl) (by exact fun _ _ _ _ h => h) (Nat.le_refl _) ?_; simp only [Act.put, Act.eval, List.setIfInBounds_toArray, List.set_cons_zero, List.set_cons_succ, Array.getD_eq_getD_getElem?, List.getElem?_toArray, List.getElem?_cons_zero, List.getElem?_cons_succ, Option.getD_some]) | (refine wpG_skip 5 (by simp only [List.getElem?_toArray, List.getElem?_cons_zero, List.getElem?_cons_succ] <;> rfl) (by decide +kernel) (by decide +kernel) (by kernel_rfl) (by rfl) (by exact fun _ _ _ _ h => h) (Nat.le_refl _) ?_; simp only [Act.put, Act.eval, List.setIfInBounds_toArray, List.set_cons_zero, List.set_cons_succ, Array.getD_eq_getD_getElem?, List.getElem?_toArray, List.getElem?_cons_zero, List.getElem?_cons_succ, Option.getD_some]) | (refine wpG_skip 6 (by simp only [List.getElem?_toArray, List.getElem?_cons_zero, List.getElem?_cons_succ] <;> rfl) (by decide +kernel) (by decide +kernel) (by kernel_rfl) (by rfl) (by exact fun _ _ _ _ h => h) (Nat.le_refl _) ?_; simp only [Act.put, Act.eval, List.setIfInBounds_toArray, List.set_cons_zero, List.set_cons_succ, Array.getD_eq_getD_getElem?, List.getElem?_toArray, List.getElem?_cons_zero, List.getElem?_cons_succ, Option.getD_some]) | (refine wpG_skip 7 (by simp only [List.getElem?_toArray, List.getElem?_cons_zero, List.getElem?_cons_succ] <;> rfl) (by decide +kernel) (by decide +kernel) (by kernel_rfl) (by rfl) (by exact fun _ _ _ _ h => h) (Nat.le_refl _) ?_; simp only [Act.put, Act.eval, List.setIfInBounds_toArray, List.set_cons_zero, List.set_cons_succ, Array.getD_eq_getD_getElem?, List.getElem?_toArray, List.getElem?_cons_zero, List.getElem?_cons_succ, Option.getD_some]) | (refine wpG_skip 10 (by simp only [List.getElem?_toArray, List.getElem?_cons_zero, List.getElem?_cons_succ] <;> rfl) (by decide +kernel) (by decide +kernel) (by kernel_rfl) (by rfl) (by exact fun _ _ _ _ h => h) (Nat.le_refl _) ?_; simp only [Act.put, Act.eval, List.setIfInBounds_toArray, List.set_cons_zero, List.set_cons_succ, Array.getD_eq_getD_getElem?, List.getElem?_toArray, List.getElem?_cons_zero, List.getElem?_cons_succ, Option.getD_some]) | (refine wpG_skip 11 (by simp only [List.getElem?_toArray, List.getElem?_cons_zero, List.getElem?_cons_succ] <;> rfl) (by decide +kernel) (by decide +kernel) (by kernel_rfl) (by rfl) (by exact fun _ _ _ _ h => h) (Nat.le_refl _) ?_; simp only [Act.put, Act.eval, List.setIfInBounds_toArray, List.set_cons_zero, List.set_cons_succ, Array.getD_eq_getD_getElem?, List.getElem?_toArray, List.getElem?_cons_zero, List.getElem?_cons_succ, Option.getD_some]) | (refine wpG_skip 12 (by simp only [List.getElem?_toArray, List.getElem?_cons_zero, List.getElem?_cons_succ] <;> rfl) (by decide +kernel) (by decide +kernel) (by kernel_rfl) (by rfl) (by exact fun _ _ _ _ h => h) (Nat.le_refl _) ?_; simp only [Act.put, Act.eval, List.setIfInBounds_toArray, List.set_cons_zero, List.set_cons_succ, Array.getD_eq_getD_getElem?, List.getElem?_toArray, List.getElem?_cons_zero, List.getElem?_cons_succ, Option.getD_some]) | (refine wpG_skip 13 (by simp only [List.getElem?_toArray, List.getElem?_cons_zero, List.getElem?_cons_succ] <;> rfl) (by decide +kernel) (by decide +kernel) (by kernel_rfl) (by rfl) (by exact fun _ _ _ _ h => h) (Nat.le_refl _) ?_; simp only [Act.put, Act.eval, List.setIfInBounds_toArray, List.set_cons_zero, List.set_cons_succ, Array.getD_eq_getD_getElem?, List.getElem?_toArray, List.getElem?_cons_zero, List.getElem?_cons_succ, Option.getD_some]) | (refine wpG_skip 15 (by simp only [List.getElem?_toArray, List.getElem?_cons_zero, List.getElem?_cons_succ] <;> rfl) (by decide +kernel) (by decide +kernel) (by kernel_rfl) (by rfl) (by exact fun _ _ _ _ h => h) (Nat.le_refl _) ?_; simp only [Act.put, Act.eval, List.setIfInBounds_toArray, List.set_cons_zero, List.set_cons_succ, Array.getD_eq_getD_getElem?, List.getElem?_toArray, List.getElem?_cons_zero, List.getElem?_cons_succ, Option.getD_some]) | (refine wpG_skip 16 (by simp only [List.getElem?_toArray, List.getElem?_cons_zero, List.getElem?_cons_succ] <;> rfl) (by decide +kernel) (by decide +kernel) (by kernel_rfl) (by rfl) (by exact fun _ _ _ _ h => h) (Nat.le_refl _) ?_; simp only [Act.put, Act.eval, List.setIfInBounds_toArray, List.set_cons_zero, List.set_cons_succ, Array.getD_eq_getD_getElem?, List.getElem?_toArray, List.getElem?_cons_zero, List.getElem?_cons_succ, Option.getD_some]) | (refine wpG_skip 17 (by simp only [List.getElem?_toArray, List.getElem?_cons_zero, List.getElem?_cons_succ] <;> rfl) (by decide +kernel) (by decide +kernel) (by kernel_rfl) (by rfl) (by exact fun _ _ _ _ h => h) (Nat.le_refl _) ?_; simp only [Act.put, Act.eval, List.setIfInBounds_toArray, List.set_cons_zero, List.set_cons_succ, Array.getD_eq_getD_getElem?, List.getElem?_toArray, List.getElem?_cons_zero, List.getElem?_cons_succ, Option.getD_some]) | (refine wpG_skip 18 (by simp only [List.getElem?_toArray, List.getElem?_cons_zero, List.getElem?_cons_succ] <;> rfl) (by decide +kernel) (by decide +kernel) (by kernel_rfl) (by rfl) (by exact fun _ _ _ _ h => h) (Nat.le_refl _) ?_; simp only [Act.put, Act.eval, List.setIfInBounds_toArray, List.set_cons_zero, List.set_cons_succ, Array.getD_eq_getD_getElem?, List.getElem?_toArray, List.getElem?_cons_zero, List.getElem?_cons_succ, Option.getD_some])))
            generalize (if c = k then some (⟨b, o, none⟩ : Addr) else some ⟨b, o + k * 3, none⟩) = AB at *
            generalize (if c = j + 1 then some (⟨b, o, none⟩ : Addr) else some ⟨b, o + (j + 1) * 3, none⟩) = AD at *
            have HSB := Lib.hid HSB0
            have HSD := Lib.hid HSD0
            clear HSB0 HSD0 FE
            have hC0 : Bel w2 w2 := Bel.refl _
            (refine wpG_two 3 8 (by decide +kernel) ?_ ?_ <;> (intro y1 hy1; refine op_wanted (by simp only [List.getElem?_toArray, List.getElem?_cons_zero, List.getElem?_cons_succ] <;> rfl) rfl ?_))
            · skip
              have hE1 := hC0.trans hy1
              refine wp_append_src (.const (.slice none 0 0)) (.tmp 56) _ rfl w2.heap.size 23 i0 _ 3 24 Try.underlying25 hi0 hz0 hz1 hz2 rfl (by omega) (.slice none 0 0) 0 [] rfl (World.ownsRow_nil _ _ _ _) (some ⟨b, o, none⟩) k c (evc (l.take k)) rfl HLA.out (HSA.out.bel hE1.out).src (evc_one _) (by unfold maxLen; omega) (by omega) hE1.size ?_
              intro v1 u1 ho1 hg1 hat1
              refine ⟨grown_below hg1 (World.ownsRow_nil y1 w2.heap.size 23 3) (Nat.le_refl _) hE1.size, ?_⟩
              simp only [Act.put, Act.eval, List.setIfInBounds_toArray, List.set_cons_zero, List.set_cons_succ, Array.getD_eq_getD_getElem?, List.getElem?_toArray, List.getElem?_cons_zero, List.getElem?_cons_succ, Option.getD_some]
              have hC1 : Bel w2 u1 := Bel.of (hE1.out.trans (grown_below hg1 (World.ownsRow_nil y1 w2.heap.size 23 3) (Nat.le_refl _) hE1.size))
              rw [Nat.zero_add, List.nil_append] at ho1
              clear hg1 hat1
              (refine wpG_one 8 (by decide +kernel) ?_; intro y2 hy2; refine op_wanted (by simp only [List.getElem?_toArray, List.getElem?_cons_zero, List.getElem?_cons_succ] <;> rfl) rfl ?_)
              have hE2 := hC1.trans hy2
              have ho1 := own_bel ho1 hy2
              refine wp_build1 _ _ rfl _ i0 Try.underlying25 hi0 hz0 hz1 e rfl ⟨Below.alloc (Below.refl _ _) hE2.size _, ?_⟩
              simp only [Act.put, Act.eval, List.setIfInBounds_toArray, List.set_cons_zero, List.set_cons_succ, Array.getD_eq_getD_getElem?, List.getElem?_toArray, List.getElem?_cons_zero, List.getElem?_cons_succ, Option.getD_some]
              have bx := Box.new y2 (evv e) 23
              have hC2 := hE2.alloc (.cells (evv e) 23)
              have ho1 := own_bel ho1 ((Bel.refl y2).alloc (.cells (evv e) 23))
              generalize y2.heap.size = X1 at *
              generalize y2.alloc (.cells (evv e) 23) = u2 at *
              clear hE1 hC1 hE2 hy1 hy2
              (refine wpG_one 9 (by decide +kernel) ?_; intro y9 hy9; refine op_wanted (by simp only [List.getElem?_toArray, List.getElem?_cons_zero, List.getElem?_cons_succ] <;> rfl) rfl ?_)
              have hE9 := hC2.trans hy9
              have bx := hy9.box bx
              have ho1 := own_bel ho1 hy9
              refine wp_append_src (.tmp 57) (.tmp 62) _ rfl w2.heap.size 23 i0 _ 3 24 Try.underlying25 hi0 hz0 hz1 hz2 rfl (by omega) _ k (evc (l.take k)) rfl ho1 _ 1 1 (evc [e]) rfl rfl (Src.box (l := evc [e]) bx 1) (evc_one _) (by unfold maxLen; omega) (by omega) hE9.size ?_
              intro v9 u9 ho9 hg9 hat9
              refine ⟨grown_below hg9 ho1 (Nat.le_refl _) hE9.size, ?_⟩
              simp only [Act.put, Act.eval, List.setIfInBounds_toArray, List.set_cons_zero, List.set_cons_succ, Array.getD_eq_getD_getElem?, List.getElem?_toArray, List.getElem?_cons_zero, List.getElem?_cons_succ, Option.getD_some]
              have hC9 : Bel w2 u9 := Bel.of (hE9.out.trans (grown_below hg9 ho1 (Nat.le_refl _) hE9.size))
              rw [← evc_append] at ho9
              clear ho1 hg9 hat9 bx
              (refine wpG_one 14 (by decide +kernel) ?_; intro y14 hy14; refine op_wanted (by simp only [List.getElem?_toArray, List.getElem?_cons_zero, List.getElem?_cons_succ] <;> rfl) rfl ?_)
              have hE14 := hC9.trans hy14
              have ho9 := own_bel ho9 hy14
              refine wp_append_src (.tmp 63) (.tmp 67) _ rfl w2.heap.size 23 i0 _ 3 24 Try.underlying25 hi0 hz0 hz1 hz2 rfl (by omega) _ (k + 1) (evc (l.take k ++ [e])) rfl ho9 AB (j - k) (c - k) (evc ((l.take j).drop k)) rfl HLB.out (HSB.out.bel hE14.out).src (evc_one _) (by unfold maxLen; omega) (by omega) hE14.size ?_
              intro v14 u14 ho14 hg14 hat14
              refine ⟨grown_below hg14 ho9 (Nat.le_refl _) hE14.size, ?_⟩
              simp only [Act.put, Act.eval, List.setIfInBounds_toArray, List.set_cons_zero, List.set_cons_succ, Array.getD_eq_getD_getElem?, List.getElem?_toArray, List.getElem?_cons_zero, List.getElem?_cons_succ, Option.getD_some]
              have hC14 : Bel w2 u14 := Bel.of (hE14.out.trans (grown_below hg14 ho9 (Nat.le_refl _) hE14.size))
              rw [← evc_append] at ho14
              clear ho9 hg14 hat14
              (refine wpG_one 19 (by decide +kernel) ?_; intro y19 hy19; refine op_wanted (by simp only [List.getElem?_toArray, List.getElem?_cons_zero, List.getElem?_cons_succ] <;> rfl) rfl ?_)
              have hE19 := hC14.trans hy19
              have ho14 := own_bel ho14 hy19
              refine wp_append_src (.tmp 68) (.tmp 72) _ rfl w2.heap.size 23 i0 _ 3 24 Try.underlying25 hi0 hz0 hz1 hz2 rfl (by omega) _ (k + 1 + (j - k)) (evc (l.take k ++ [e] ++ (l.take j).drop k)) rfl ho14 AD (n - (j + 1)) (c - (j + 1)) (evc (l.drop (j + 1))) rfl HLD.out (HSD.out.bel hE19.out).src (evc_one _) (by unfold maxLen; omega) (by omega) hE19.size ?_
              intro v19 u19 ho19 hg19 hat19
              refine ⟨grown_below hg19 ho14 (Nat.le_refl _) hE19.size, ?_⟩
              simp only [Act.put, Act.eval, List.setIfInBounds_toArray, List.set_cons_zero, List.set_cons_succ, Array.getD_eq_getD_getElem?, List.getElem?_toArray, List.getElem?_cons_zero, List.getElem?_cons_succ, Option.getD_some]
              have hC19 : Bel w2 u19 := Bel.of (hE19.out.trans (grown_below hg19 ho14 (Nat.le_refl _) hE19.size))
              rw [← evc_append, show k + 1 + (j - k) + (n - (j + 1)) = n by omega, show l.take k ++ [e] ++ (l.take j).drop k ++ l.drop (j + 1) = mvL l e k j by unfold mvL; simp only [List.append_assoc, List.cons_append, List.nil_append]] at ho19
              clear ho14 hg19 hat19
              (repeat (first | (refine wpG_go 20 (by simp only [List.getElem?_toArray, List.getElem?_cons_zero, List.getElem?_cons_succ] <;> rfl) (by decide +kernel) (by decide +kernel) (by kernel_rfl) (by rfl) (by exact fun _ _ _ _ h => h) hC19.size ?_; apply Exists.intro; refine ⟨fun w1 h1 => ?_, ?_⟩; (first | exact g_move _ rfl | exact g_assign _ rfl | (go_simp; first | exact ⟨rfl, rfl⟩ | rfl)); simp only [Act.put, Act.eval, List.setIfInBounds_toArray, List.set_cons_zero, List.set_cons_succ, Array.getD_eq_getD_getElem?, List.getElem?_toArray, List.getElem?_cons_zero, List.getElem?_cons_succ, Option.getD_some]) | (refine wpG_skip 20 (by simp only [List.getElem?_toArray, List.getElem?_cons_zero, List.getElem?_cons_succ] <;> rfl) (by decide +kernel) (by decide +kernel) (by kernel_rfl) (by rfl) (by exact fun _ _ _ _ h => h) hC19.size ?_; simp only [Act.put, Act.eval, List.setIfInBounds_toArray, List.set_cons_zero, List.set_cons_succ, Array.getD_eq_getD_getElem?, List.getElem?_toArray, List.getElem?_cons_zero, List.getElem?_cons_succ, Option.getD_some])))
              (refine wpG_done (by decide +kernel) ?_ _; intro wz hwz; try simp only [Act.put, Act.eval, List.setIfInBounds_toArray, List.set_cons_zero, List.set_cons_succ, Array.getD_eq_getD_getElem?, List.getElem?_toArray, List.getElem?_cons_zero, List.getElem?_cons_succ, Option.getD_some])
              obtain ⟨Az, cz, rfl, sz, nz, mz⟩ := Sl.own (own_bel ho19 hwz)
              have HZ := Lib.hid (And.intro sz (And.intro nz mz))
              have HBZ := Lib.hid (HBW.out.trans (hC19.trans hwz))
              have HSZ := Lib.hid (HSM9.out.bel (hC19.trans hwz).out)
              clear ho19 hwz hC19 hC14 hC9 hE19 hE14 hE9 sz nz mz hC2 hy9 hy14 hy19 hC0
              go_wp2_with fail
              refine (HSM.out (some ⟨b, o, none⟩) n c l A' n d (mvL l e k j) _ (HL.out.bel HBZ.out.out) HMX.out.1 HMX.out.2 HSZ.out HD.out.1 HD.out.2).mono ?_
              rintro e5 w5 ⟨rfl, hb5⟩
              rw [HSE.out.1, HSE.out.2]
              have HB5 := Lib.hid (HBZ.out.call hb5)
              have HSZ5 := Lib.hid (HSZ.out.bel hb5)
              have HZ5 := Lib.hid (HZ.out.1.bel hb5)
              clear hb5
              go_wp2_with fail
              refine (eqev_any A' Az n d n cz (mvL l e k j) (mvL l e k j) _ HSZ5.out HZ5.out HD.out.1 HZ.out.2.1 HD.out.2 HZ.out.2.2).mono ?_
              rintro e6 w6 ⟨rfl, hb6⟩
              rw [decide_eq_true rfl]
              have HB6 := Lib.hid (HB5.out.call hb6)
              clear hb6
              go_wp2
              go_ret
              exact ⟨rfl, HB6.out⟩
            · skip
              have hE1 := hC0.trans hy1
              refine wp_build1 _ _ rfl _ i0 Try.underlying25 hi0 hz0 hz1 e rfl ⟨Below.alloc (Below.refl _ _) hE1.size _, ?_⟩
              simp only [Act.put, Act.eval, List.setIfInBounds_toArray, List.set_cons_zero, List.set_cons_succ, Array.getD_eq_getD_getElem?, List.getElem?_toArray, List.getElem?_cons_zero, List.getElem?_cons_succ, Option.getD_some]
              have bx := Box.new y1 (evv e) 23
              have hC1 := hE1.alloc (.cells (evv e) 23)
              generalize y1.heap.size = X1 at *
              generalize y1.alloc (.cells (evv e) 23) = u1 at *
              (refine wpG_one 3 (by decide +kernel) ?_; intro y2 hy2; refine op_wanted (by simp only [List.getElem?_toArray, List.getElem?_cons_zero, List.getElem?_cons_succ] <;> rfl) rfl ?_)
              have hE2 := hC1.trans hy2
              have bx := hy2.box bx
              refine wp_append_src (.const (.slice none 0 0)) (.tmp 56) _ rfl w2.heap.size 23 i0 _ 3 24 Try.underlying25 hi0 hz0 hz1 hz2 rfl (by omega) (.slice none 0 0) 0 [] rfl (World.ownsRow_nil _ _ _ _) (some ⟨b, o, none⟩) k c (evc (l.take k)) rfl HLA.out (HSA.out.bel hE2.out).src (evc_one _) (by unfold maxLen; omega) (by omega) hE2.size ?_
              intro v1 u2 ho1 hg1 hat1
              refine ⟨grown_below hg1 (World.ownsRow_nil y2 w2.heap.size 23 3) (Nat.le_refl _) hE2.size, ?_⟩
              simp only [Act.put, Act.eval, List.setIfInBounds_toArray, List.set_cons_zero, List.set_cons_succ, Array.getD_eq_getD_getElem?, List.getElem?_toArray, List.getElem?_cons_zero, List.getElem?_cons_succ, Option.getD_some]
              have hC2 : Bel w2 u2 := Bel.of (hE2.out.trans (grown_below hg1 (World.ownsRow_nil y2 w2.heap.size 23 3) (Nat.le_refl _) hE2.size))
              have bx := bx.grown hg1 (by intro h; cases h)
              rw [Nat.zero_add, List.nil_append] at ho1
              clear hg1 hat1 hE1 hC1 hE2 hy1 hy2
              (refine wpG_one 9 (by decide +kernel) ?_; intro y9 hy9; refine op_wanted (by simp only [List.getElem?_toArray, List.getElem?_cons_zero, List.getElem?_cons_succ] <;> rfl) rfl ?_)
              have hE9 := hC2.trans hy9
              have bx := hy9.box bx
              have ho1 := own_bel ho1 hy9
              refine wp_append_src (.tmp 57) (.tmp 62) _ rfl w2.heap.size 23 i0 _ 3 24 Try.underlying25 hi0 hz0 hz1 hz2 rfl (by omega) _ k (evc (l.take k)) rfl ho1 _ 1 1 (evc [e]) rfl rfl (Src.box (l := evc [e]) bx 1) (evc_one _) (by unfold maxLen; omega) (by omega) hE9.size ?_
              intro v9 u9 ho9 hg9 hat9
              refine ⟨grown_below hg9 ho1 (Nat.le_refl _) hE9.size, ?_⟩
              simp only [Act.put, Act.eval, List.setIfInBounds_toArray, List.set_cons_zero, List.set_cons_succ, Array.getD_eq_getD_getElem?, List.getElem?_toArray, List.getElem?_cons_zero, List.getElem?_cons_succ, Option.getD_some]
              have hC9 : Bel w2 u9 := Bel.of (hE9.out.trans (grown_below hg9 ho1 (Nat.le_refl _) hE9.size))
              rw [← evc_append] at ho9
              clear ho1 hg9 hat9 bx
              (refine wpG_one 14 (by decide +kernel) ?_; intro y14 hy14; refine op_wanted (by simp only [List.getElem?_toArray, List.getElem?_cons_zero, List.getElem?_cons_succ] <;> rfl) rfl ?_)
              have hE14 := hC9.trans hy14
              have ho9 := own_bel ho9 hy14
              refine wp_append_src (.tmp 63) (.tmp 67) _ rfl w2.heap.size 23 i0 _ 3 24 Try.underlying25 hi0 hz0 hz1 hz2 rfl (by omega) _ (k + 1) (evc (l.take k ++ [e])) rfl ho9 AB (j - k) (c - k) (evc ((l.take j).drop k)) rfl HLB.out (HSB.out.bel hE14.out).src (evc_one _) (by unfold maxLen; omega) (by omega) hE14.size ?_
              intro v14 u14 ho14 hg14 hat14
              refine ⟨grown_below hg14 ho9 (Nat.le_refl _) hE14.size, ?_⟩
              simp only [Act.put, Act.eval, List.setIfInBounds_toArray, List.set_cons_zero, List.set_cons_succ, Array.getD_eq_getD_getElem?, List.getElem?_toArray, List.getElem?_cons_zero, List.getElem?_cons_succ, Option.getD_some]
              have hC14 : Bel w2 u14 := Bel.of (hE14.out.trans (grown_below hg14 ho9 (Nat.le_refl _) hE14.size))
              rw [← evc_append] at ho14
              clear ho9 hg14 hat14
              (refine wpG_one 19 (by decide +kernel) ?_; intro y19 hy19; refine op_wanted (by simp only [List.getElem?_toArray, List.getElem?_cons_zero, List.getElem?_cons_succ] <;> rfl) rfl ?_)
              have hE19 := hC14.trans hy19
              have ho14 := own_bel ho14 hy19
              refine wp_append_src (.tmp 68) (.tmp 72) _ rfl w2.heap.size 23 i0 _ 3 24 Try.underlying25 hi0 hz0 hz1 hz2 rfl (by omega) _ (k + 1 + (j - k)) (evc (l.take k ++ [e] ++ (l.take j).drop k)) rfl ho14 AD (n - (j + 1)) (c - (j + 1)) (evc (l.drop (j + 1))) rfl HLD.out (HSD.out.bel hE19.out).src (evc_one _) (by unfold maxLen; omega) (by omega) hE19.size ?_
              intro v19 u19 ho19 hg19 hat19
              refine ⟨grown_below hg19 ho14 (Nat.le_refl _) hE19.size, ?_⟩
              simp only [Act.put, Act.eval, List.setIfInBounds_toArray, List.set_cons_zero, List.set_cons_succ, Array.getD_eq_getD_getElem?, List.getElem?_toArray, List.getElem?_cons_zero, List.getElem?_cons_succ, Option.getD_some]
              have hC19 : Bel w2 u19 := Bel.of (hE19.out.trans (grown_below hg19 ho14 (Nat.le_refl _) hE19.size))
              rw [← evc_append, show k + 1 + (j - k) + (n - (j + 1)) = n by omega, show l.take k ++ [e] ++ (l.take j).drop k ++ l.drop (j + 1) = mvL l e k j by unfold mvL; simp only [List.append_assoc, List.cons_append, List.nil_append]] at ho19
              clear ho14 hg19 hat19
              (repeat (first | (refine wpG_go 20 (by simp only [List.getElem?_toArray, List.getElem?_cons_zero, List.getElem?_cons_succ] <;> rfl) (by decide +kernel) (by decide +kernel) (by kernel_rfl) (by rfl) (by exact fun _ _ _ _ h => h) hC19.size ?_; apply Exists.intro; refine ⟨fun w1 h1 => ?_, ?_⟩; (first | exact g_move _ rfl | exact g_assign _ rfl | (go_simp; first | exact ⟨rfl, rfl⟩ | rfl)); simp only [Act.put, Act.eval, List.setIfInBounds_toArray, List.set_cons_zero, List.set_cons_succ, Array.getD_eq_getD_getElem?, List.getElem?_toArray, List.getElem?_cons_zero, List.getElem?_cons_succ, Option.getD_some]) | (refine wpG_skip 20 (by simp only [List.getElem?_toArray, List.getElem?_cons_zero, List.getElem?_cons_succ] <;> rfl) (by decide +kernel) (by decide +kernel) (by kernel_rfl) (by rfl) (by exact fun _ _ _ _ h => h) hC19.size ?_; simp only [Act.put, Act.eval, List.setIfInBounds_toArray, List.set_cons_zero, List.set_cons_succ, Array.getD_eq_getD_getElem?, List.getElem?_toArray, List.getElem?_cons_zero, List.getElem?_cons_succ, Option.getD_some])))
              (refine wpG_done (by decide +kernel) ?_ _; intro wz hwz; try simp only [Act.put, Act.eval, List.setIfInBounds_toArray, List.set_cons_zero, List.set_cons_succ, Array.getD_eq_getD_getElem?, List.getElem?_toArray, List.getElem?_cons_zero, List.getElem?_cons_succ, Option.getD_some])
              obtain ⟨Az, cz, rfl, sz, nz, mz⟩ := Sl.own (own_bel ho19 hwz)
              have HZ := Lib.hid (And.intro sz (And.intro nz mz))
              have HBZ := Lib.hid (HBW.out.trans (hC19.trans hwz))
              have HSZ := Lib.hid (HSM9.out.bel (hC19.trans hwz).out)
              clear ho19 hwz hC19 hC14 hC9 hE19 hE14 hE9 sz nz mz hC2 hy9 hy14 hy19 hC0
              go_wp2_with fail
              refine (HSM.out (some ⟨b, o, none⟩) n c l A' n d (mvL l e k j) _ (HL.out.bel HBZ.out.out) HMX.out.1 HMX.out.2 HSZ.out HD.out.1 HD.out.2).mono ?_
              rintro e5 w5 ⟨rfl, hb5⟩
              rw [HSE.out.1, HSE.out.2]
              have HB5 := Lib.hid (HBZ.out.call hb5)
              have HSZ5 := Lib.hid (HSZ.out.bel hb5)
              have HZ5 := Lib.hid (HZ.out.1.bel hb5)
              clear hb5
              go_wp2_with fail
              refine (eqev_any A' Az n d n cz (mvL l e k j) (mvL l e k j) _ HSZ5.out HZ5.out HD.out.1 HZ.out.2.1 HD.out.2 HZ.out.2.2).mono ?_
              rintro e6 w6 ⟨rfl, hb6⟩
              rw [decide_eq_true rfl]
              have HB6 := Lib.hid (HB5.out.call hb6)
              clear hb6
              go_wp2
              go_ret
              exact ⟨rfl, HB6.out⟩
theorem walk (W : World) (A : Option Addr) (n c : Nat) (l : List Ev) (s : Sl W A n l) (m : n ≤ c) (x : c ≤ maxLen) (g : ∀ e ∈ l, EvOk e) (i : Int) (ki : In64 i) :
    Calls Try.prog 14 #[.slice A n c, .int .i64 i] W fun e w' => e = .returned (.bool true) ∧ Below W.heap.size W w' := walkH swap_any apart_any same_any W A n c l s m x g i ki
set_option maxRecDepth 100000 in
theorem lifted (os : Os) (started : os.Started) (H : Type) (enc : TypeId × Value → H) :
    ReturnsInHanded {} Try.checked os 14 .any (Rows.swapMovesSpec.pre6 enc Try.prog Try.f14 Rows.swapMovesRow.domain false) (Rows.swapMovesSpec.post enc Try.prog Try.f14 false true false false) := by
  refine returnsInHanded_of_change_sized (C := Try.checked) own started (by kernel_rfl) Try.func14
    (ChangeSpec.witness6 (enc := enc) (C := Try.checked) false ⟨#[], #[.slice none 0 0, .int .i64 0], []⟩ 8 (by kernel_rfl) (by kernel_rfl) (by kernel_rfl) (by kernel_rfl)) ?_
  intro W base args ds gs before hval0 hW hcnd hsz0 _
  have hsz : (DataW.weightsEach Try.prog (Try.f14.params.toList ++ Rows.swapMovesSpec.plain.varTypes Try.prog) (ds ++ gs)).all (· ≤ reachBytes) = true := hsz0
  clear hsz0
  have hval : ∀ (j : Nat) t v, Try.f14.params[j]? = some t → args[j]? = some v → Value.okWide Try.prog W .any base t v := hval0
  have hW' := hW
  obtain ⟨p, q, hA0, hV, rfl, hfz, hnd⟩ := hW
  have hA : DataW.TrodAll enc Try.prog W 0 (fun _ => true) true Try.f14.params.toList args.toList ds p := hA0
  rw [Try.params14] at hA hval hsz
  obtain ⟨v0, vs0, d0, ds0, p0, q0, hargs, rfl, rfl, h0, r0⟩ := trodAll_cons hA
  obtain ⟨v1, vs1, d1, ds1, p1, q1, rfl, rfl, rfl, h1, r1⟩ := trodAll_cons r0
  obtain ⟨rfl, rfl, rfl⟩ := trodAll_nil r1
  obtain rfl : args = #[v0, v1] := by cases args; simp_all
  obtain ⟨rfl, rfl⟩ := trodVars_none hV
  have t0 := h0
  have lt0 : ∀ x ∈ p0, x.block < W.heap.size := by obtain ⟨m, hm⟩ := t0; exact DataW.trod_lt m _ _ _ hm
  have t1 := h1
  have lt1 : ∀ x ∈ p1, x.block < W.heap.size := by obtain ⟨m, hm⟩ := t1; exact DataW.trod_lt m _ _ _ hm
  obtain ⟨A0, n0, c0, l0, rfl, s0, m0, x0, g0, z0⟩ := open_evs Try.underlying25 Try.underlying23 ⟨rfl, rfl, rfl⟩ (by kernel_rfl) (by kernel_rfl) Try.underlying3 (hval 0 25 v0 rfl rfl) h0
  have y0 := reach_sl hsz (j := 0) rfl rfl Try.underlying25 (b := 24) (by kernel_rfl) z0
  obtain ⟨a1, rfl, _, _, x1⟩ := open_int Try.underlying3 (hval 1 3 v1 rfl rfl) h1
  have k1 := in64_of x1
  clear hA0 hval0
  refine (walk W A0 n0 c0 l0 s0 m0 x0 g0 a1 k1).mono fun e W' ⟨he, bel⟩ => ?_
  subst he
  exact ⟨_, rfl, _, _, _, [], _, [], hW', trodAll_mk1 (shut_bool Try.underlying4 _), (trodAll_cons_mk (Below.trod laidOut (by kernel_rfl) (of_decide_eq_true (by kernel_rfl)) t0 bel lt0) (trodAll_cons_mk (Below.trod laidOut (by kernel_rfl) (of_decide_eq_true (by kernel_rfl)) t1 bel lt1) trodAll_mk0)), rfl, bel.frame _, fun h => by cases h⟩

theorem over : Rows.swapMovesRow.holds Try.pinned (OpenSpec.ofChange Rows.swapMovesSpec) :=
  OpenClaim.holds_of_wide 14 Try.f14 rfl rfl rfl rfl rfl rfl rfl ⟨rfl, rfl, rfl, rfl, rfl⟩ rfl rfl rfl rfl rfl (by kernel_rfl) Try.func14 (by kernel_rfl)
    (of_decide_eq_true (by kernel_rfl)) (by unfold Func.isWrapper; first | (rw [if_pos (by decide +kernel)]; kernel_rfl) | (rw [if_neg (by decide +kernel)]; exact ⟨rfl, rfl⟩))
    (fun os started H enc _ => lifted os started H enc)

theorem proved : Rows.SwapMovesSaid := over
#print axioms proved
end Go.Proofs.Ytjlomojhbjpdfaa.LSwapMoves
