/- The reference's Eq over events. -/
import Derived.Test.YteihildhlcggoaaMid
set_option linter.all false
set_option maxRecDepth 100000
namespace Go.Proofs.Yteihildhlcggoaa
open Go Go.RowKit

set_option maxHeartbeats 4000000 in
theorem eqev_any (A B : Option Addr) (n c m d : Nat) (l k : List Ev) (w : World) (hl : Sl w A n l) (hk : Sl w B m k) (hnc : n ≤ c) (hmd : m ≤ d) (hc : c ≤ maxLen) (hd : d ≤ maxLen) :
    Calls Try.prog 30 #[.slice A n c, .slice B m d] w fun e w' => e = .returned (.bool (decide (l = k))) ∧ Below w.heap.size w w' := by
  unfold maxLen at hc hd
  have hw0 := Lib.hid (Below.refl w.heap.size w)
  by_cases hnm : n = m
  · subst hnm
    have HL := Lib.hid hl
    have HK := Lib.hid hk
    have hne : ((n : Int) != (n : Int)) = false := by simp
    clear hl hk
    go_enter Try.func30, Try.ntmps30
    go_wp2
    go_loopw [14] (fun t wr => ∃ i : Nat, i ≤ n ∧ t = .int .i64 i ∧ l.take i = k.take i ∧ Below w.heap.size w wr) (fun t _ => n - (intOf t).toNat)
    case atStart => exact ⟨0, by omega, rfl, rfl, hw0.out⟩
    case round =>
      obtain ⟨i, hi, rfl, htk, hbr⟩ := hrel
      have HB := Lib.hid hbr
      have HT := Lib.hid htk
      clear hbr htk
      by_cases hlt : i < n
      · have hlt' : (i : Int) < n := by omega
        obtain ⟨bb, off, e, rfl, hbb, he, hrg⟩ := HL.out.at_ hlt
        obtain ⟨bc, off', f, rfl, hbc, hf, hrg'⟩ := HK.out.at_ hlt
        have hR := Lib.hid (rangeAt_below HB.out hbb hrg)
        have HE := Lib.hid he
        have HF := Lib.hid hf
        have HEB := Lib.hid (show Bel wr _ from ewld_below wr e 50)
        have HEX := Lib.hid (ewld_box wr e 50)
        have HB2 := Lib.hid ((Bel.of (w := w) (w' := wr) HB.out).trans HEB.out)
        have HR2 := Lib.hid (rangeAt_below HB2.out.out hbc hrg')
        have HBC := Lib.hid (Nat.lt_of_lt_of_le hbc HB2.out.size)
        clear he hf hrg hrg' hbb hbc
        have HX0 := HEX.out
        have F := fun (w' : World) (h : Bel (ewld wr e 50) w') => rangeAt_below h.out HBC.out HR2.out
        have HF2 := Lib.hid F
        clear F
        have NE := neq_ev e f
        have G := grd_ev
        cases hq : decide (e = f)
        · rw [hq] at NE
          have HV := Lib.hid (show decide (l = k) = false by
            rw [decide_eq_false_iff_not]; intro hh; subst hh
            have := HE.out; rw [HF.out] at this; cases this; simp at hq)
          go_wp2_with (first | (refine load_ev T36 _ rfl rfl rfl hR.out ?_) | (refine ewld_store T36 _ _ rfl rfl _ rfl rfl rfl ?_))
          (refine region_bel (by kernel_rfl) (by kernel_rfl) ?_; (repeat (first | ((with_reducible refine BigFrame.wpQuiet_skip ?_ ?_); exact rfl; simp only [Act.put, Act.eval, List.setIfInBounds_toArray, List.set_cons_zero, List.set_cons_succ, Array.getD_eq_getD_getElem?, List.getElem?_toArray, List.getElem?_cons_zero, List.getElem?_cons_succ, Option.getD_some]) | (refine q_move _ rfl rfl ?_; simp only [Act.put, Act.eval, List.setIfInBounds_toArray, List.set_cons_zero, List.set_cons_succ, Array.getD_eq_getD_getElem?, List.getElem?_toArray, List.getElem?_cons_zero, List.getElem?_cons_succ, Option.getD_some]) | (refine q_assign _ rfl rfl ?_; simp only [Act.put, Act.eval, List.setIfInBounds_toArray, List.set_cons_zero, List.set_cons_succ, Array.getD_eq_getD_getElem?, List.getElem?_toArray, List.getElem?_cons_zero, List.getElem?_cons_succ, Option.getD_some]) | (refine q_load _ _ rfl rfl rfl HX0 T36 ?_; simp only [Act.put, Act.eval, List.setIfInBounds_toArray, List.set_cons_zero, List.set_cons_succ, Array.getD_eq_getD_getElem?, List.getElem?_toArray, List.getElem?_cons_zero, List.getElem?_cons_succ, Option.getD_some]) | (refine q_load_mid _ _ rfl rfl rfl HF2.out T36 (evv f) rfl ?_; simp only [Act.put, Act.eval, List.setIfInBounds_toArray, List.set_cons_zero, List.set_cons_succ, Array.getD_eq_getD_getElem?, List.getElem?_toArray, List.getElem?_cons_zero, List.getElem?_cons_succ, Option.getD_some]) | (refine q_any rfl ?_; apply Exists.intro; refine ⟨fun w hw => ?_, ?_⟩; (go_simp; first | exact ⟨rfl, rfl⟩ | rfl); simp only [Act.put, Act.eval, List.setIfInBounds_toArray, List.set_cons_zero, List.set_cons_succ, Array.getD_eq_getD_getElem?, List.getElem?_toArray, List.getElem?_cons_zero, List.getElem?_cons_succ, Option.getD_some]))); refine wpQuiet_nil ?_; intro w2 hw2)
          go_wp2
          go_ret
          exact ⟨by rw [HV.out]; rfl, HB2.out.trans hw2⟩
        · rw [hq] at NE
          have HEQ := Lib.hid (of_decide_eq_true hq)
          go_wp2_with (first | (refine load_ev T36 _ rfl rfl rfl hR.out ?_) | (refine ewld_store T36 _ _ rfl rfl _ rfl rfl rfl ?_))
          (refine region_bel (by kernel_rfl) (by kernel_rfl) ?_; (repeat (first | ((with_reducible refine BigFrame.wpQuiet_skip ?_ ?_); exact rfl; simp only [Act.put, Act.eval, List.setIfInBounds_toArray, List.set_cons_zero, List.set_cons_succ, Array.getD_eq_getD_getElem?, List.getElem?_toArray, List.getElem?_cons_zero, List.getElem?_cons_succ, Option.getD_some]) | (refine q_move _ rfl rfl ?_; simp only [Act.put, Act.eval, List.setIfInBounds_toArray, List.set_cons_zero, List.set_cons_succ, Array.getD_eq_getD_getElem?, List.getElem?_toArray, List.getElem?_cons_zero, List.getElem?_cons_succ, Option.getD_some]) | (refine q_assign _ rfl rfl ?_; simp only [Act.put, Act.eval, List.setIfInBounds_toArray, List.set_cons_zero, List.set_cons_succ, Array.getD_eq_getD_getElem?, List.getElem?_toArray, List.getElem?_cons_zero, List.getElem?_cons_succ, Option.getD_some]) | (refine q_load _ _ rfl rfl rfl HX0 T36 ?_; simp only [Act.put, Act.eval, List.setIfInBounds_toArray, List.set_cons_zero, List.set_cons_succ, Array.getD_eq_getD_getElem?, List.getElem?_toArray, List.getElem?_cons_zero, List.getElem?_cons_succ, Option.getD_some]) | (refine q_load_mid _ _ rfl rfl rfl HF2.out T36 (evv f) rfl ?_; simp only [Act.put, Act.eval, List.setIfInBounds_toArray, List.set_cons_zero, List.set_cons_succ, Array.getD_eq_getD_getElem?, List.getElem?_toArray, List.getElem?_cons_zero, List.getElem?_cons_succ, Option.getD_some]) | (refine q_any rfl ?_; apply Exists.intro; refine ⟨fun w hw => ?_, ?_⟩; (go_simp; first | exact ⟨rfl, rfl⟩ | rfl); simp only [Act.put, Act.eval, List.setIfInBounds_toArray, List.set_cons_zero, List.set_cons_succ, Array.getD_eq_getD_getElem?, List.getElem?_toArray, List.getElem?_cons_zero, List.getElem?_cons_succ, Option.getD_some]))); refine wpQuiet_nil ?_; intro w2 hw2)
          have HW2 := Lib.hid hw2
          clear hw2
          go_wp2
          go_roundw
          case rel => exact ⟨i + 1, by omega, by go_num, by rw [take_snoc HE.out, take_snoc HF.out, HT.out, HEQ.out], HB2.out.trans HW2.out⟩
          case measure => simp [intOf]; omega
      · obtain rfl : i = n := by omega
        have HV := Lib.hid (show decide (l = k) = true by
          rw [decide_eq_true_iff]
          have h := HT.out
          rw [take_all HL.out, take_all HK.out] at h; exact h)
        go_wp2
        go_ret
        exact ⟨by rw [HV.out]; rfl, HB.out⟩
  · have hne : ((n : Int) != (m : Int)) = true := by rw [bne_iff_ne]; omega
    have HV := Lib.hid (show decide (l = k) = false by
      rw [decide_eq_false_iff_not]; intro hh; apply hnm; rw [← hl.1, ← hk.1, hh])
    clear hl hk
    go_enter Try.func30, Try.ntmps30
    go_wp2
    go_ret
    exact ⟨by rw [HV.out]; rfl, hw0.out⟩
end Go.Proofs.Yteihildhlcggoaa
