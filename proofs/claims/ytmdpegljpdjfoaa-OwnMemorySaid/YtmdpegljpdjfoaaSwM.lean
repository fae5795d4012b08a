/- The package swap: the lowest of the events that can come first. -/
import Derived.Test.YtmdpegljpdjfoaaSwL
set_option linter.all false
set_option maxRecDepth 100000
namespace Go.Proofs.Ytmdpegljpdjfoaa
open Go Go.RowKit

def LowPost (w : World) (n : Nat) (l : List Ev) (e : Ending) (w' : World) : Prop := ∃ (f : Nat) (x : Ev), e = .returned (.int .i64 f) ∧ f < n ∧ Low l n f x ∧ Below w.heap.size w w'
set_option maxHeartbeats 8000000 in
theorem lowest_any (A : Option Addr) (n c : Nat) (l : List Ev) (w : World) (h : Sl w A n l) (h0 : 0 < n) (hnc : n ≤ c) (hn : n ≤ 1000) :
    Calls Try.prog 36 #[.slice A n c] w (LowPost w n l) := by
  obtain ⟨b, off, e0, rfl, hb0, he0, _⟩ := h.at_ h0
  have HL := Lib.hid h
  have HS := Lib.hid (Low.start he0)
  have HN := Lib.hid (And.intro hnc hn)
  have HZ := Lib.hid (And.intro h0 hb0)
  have hw0 := Lib.hid (Below.refl w.heap.size w)
  clear h he0 h0 hb0
  go_enter Try.func36, Try.ntmps36
  go_wp2
  go_loopw [3, 8] (fun v t wr => ∃ (i f : Nat) (e : Ev), i ≤ n ∧ f < n ∧ v = .int .i64 f ∧ t = .int .i64 i ∧ Low l i f e ∧ Below w.heap.size w wr) (fun _ t _ => n - (intOf t).toNat)
  case atStart => exact ⟨0, 0, e0, by omega, HZ.out.1, rfl, rfl, HS.out, hw0.out⟩
  case round =>
    obtain ⟨i, f, e, hi, hf, rfl, rfl, hlow, hbr⟩ := hrel
    have HB := Lib.hid hbr
    have HW := Lib.hid hlow
    clear hlow hbr HS
    by_cases hlt : i < n
    · have hlt' : (i : Int) < n := by omega
      have hf' : (f : Int) < n := by omega
      obtain ⟨x, hx⟩ : ∃ x, l[i]? = some x := ⟨_, List.getElem?_eq_getElem (by rw [HL.out.1]; exact hlt)⟩
      have HSR := Lib.hid (HL.out.bel HB.out)
      have HX := Lib.hid hx
      have hR := Lib.hid (HSR.out.rng hlt hx).2
      have HB2 := Lib.hid (show Bel wr _ from ewld_below wr x 29)
      have HEX := Lib.hid (ewld_box wr x 29)
      have HS2 := Lib.hid (HSR.out.bel HB2.out.out)
      have F1 := fun (w' : World) (k : Bel (ewld wr x 29) w') => (k.box HEX.out).cell 1 (v := .int .i64 x.t) rfl
      have F2 := fun (w' : World) (k : Bel (ewld wr x 29) w') => (rangeAt_below k.out (HS2.out.rng hf HW.out.can.1).1 (HS2.out.rng hf HW.out.can.1).2) 1 (.int .i64 e.t) rfl
      have F3 := fun (w' : World) (k : Bel (ewld wr x 29) w') => can_any (some ⟨b, off, none⟩) n c l i x w' (HS2.out.bel k.out) hlt hx HN.out.1 HN.out.2
      have HF3 := Lib.hid F3
      clear hx F3
      by_cases hq : x.t < e.t
      · have HQ := Lib.hid hq
        cases hany : (l.take i).any fun y => dep y x
        · go_wp2_with (first | (refine load_ev T36 _ rfl rfl rfl hR.out ?_) | (refine ewld_store T36 _ _ rfl rfl _ rfl rfl rfl ?_))
          (refine region_bel (by kernel_rfl) (by kernel_rfl) ?_; (repeat (first | ((with_reducible refine BigFrame.wpQuiet_skip ?_ ?_); exact rfl; simp only [Act.put, Act.eval, List.setIfInBounds_toArray, List.set_cons_zero, List.set_cons_succ, Array.getD_eq_getD_getElem?, List.getElem?_toArray, List.getElem?_cons_zero, List.getElem?_cons_succ, Option.getD_some]) | (refine q_move _ rfl rfl ?_; simp only [Act.put, Act.eval, List.setIfInBounds_toArray, List.set_cons_zero, List.set_cons_succ, Array.getD_eq_getD_getElem?, List.getElem?_toArray, List.getElem?_cons_zero, List.getElem?_cons_succ, Option.getD_some]) | (refine q_assign _ rfl rfl ?_; simp only [Act.put, Act.eval, List.setIfInBounds_toArray, List.set_cons_zero, List.set_cons_succ, Array.getD_eq_getD_getElem?, List.getElem?_toArray, List.getElem?_cons_zero, List.getElem?_cons_succ, Option.getD_some]) | (refine q_any rfl ?_; apply Exists.intro; refine ⟨fun w hw => ?_, ?_⟩; (have fct0 := F1 w hw; have fct1 := F2 w hw; go_simp; first | exact ⟨rfl, rfl⟩ | rfl | (go_at_call 48; (with_reducible refine (HF3.out _ hw).mono ?_); rintro e w' ⟨rfl, hb⟩; exact ⟨rfl, hw.call hb⟩)); simp only [Act.put, Act.eval, List.setIfInBounds_toArray, List.set_cons_zero, List.set_cons_succ, Array.getD_eq_getD_getElem?, List.getElem?_toArray, List.getElem?_cons_zero, List.getElem?_cons_succ, Option.getD_some]))); refine wpQuiet_nil ?_; intro w2 hw2)
          have HW2 := Lib.hid hw2
          have HAN := Lib.hid hany
          clear hw2 F1 F2 hany hq
          go_wp2
          go_roundw
          case rel => exact ⟨i + 1, i, x, by omega, by omega, rfl, by go_num, HW.out.turn HX.out HQ.out HAN.out, HB.out.trans ((HB2.out.trans HW2.out).out.mono HB.out.size)⟩
          case measure => simp [intOf]; omega
        · go_wp2_with (first | (refine load_ev T36 _ rfl rfl rfl hR.out ?_) | (refine ewld_store T36 _ _ rfl rfl _ rfl rfl rfl ?_))
          (refine region_bel (by kernel_rfl) (by kernel_rfl) ?_; (repeat (first | ((with_reducible refine BigFrame.wpQuiet_skip ?_ ?_); exact rfl; simp only [Act.put, Act.eval, List.setIfInBounds_toArray, List.set_cons_zero, List.set_cons_succ, Array.getD_eq_getD_getElem?, List.getElem?_toArray, List.getElem?_cons_zero, List.getElem?_cons_succ, Option.getD_some]) | (refine q_move _ rfl rfl ?_; simp only [Act.put, Act.eval, List.setIfInBounds_toArray, List.set_cons_zero, List.set_cons_succ, Array.getD_eq_getD_getElem?, List.getElem?_toArray, List.getElem?_cons_zero, List.getElem?_cons_succ, Option.getD_some]) | (refine q_assign _ rfl rfl ?_; simp only [Act.put, Act.eval, List.setIfInBounds_toArray, List.set_cons_zero, List.set_cons_succ, Array.getD_eq_getD_getElem?, List.getElem?_toArray, List.getElem?_cons_zero, List.getElem?_cons_succ, Option.getD_some]) | (refine q_any rfl ?_; apply Exists.intro; refine ⟨fun w hw => ?_, ?_⟩; (have fct0 := F1 w hw; have fct1 := F2 w hw; go_simp; first | exact ⟨rfl, rfl⟩ | rfl | (go_at_call 48; (with_reducible refine (HF3.out _ hw).mono ?_); rintro e w' ⟨rfl, hb⟩; exact ⟨rfl, hw.call hb⟩)); simp only [Act.put, Act.eval, List.setIfInBounds_toArray, List.set_cons_zero, List.set_cons_succ, Array.getD_eq_getD_getElem?, List.getElem?_toArray, List.getElem?_cons_zero, List.getElem?_cons_succ, Option.getD_some]))); refine wpQuiet_nil ?_; intro w2 hw2)
          have HW2 := Lib.hid hw2
          have HAN := Lib.hid hany
          clear hw2 F1 F2 hany hq
          go_wp2
          go_roundw
          case rel => exact ⟨i + 1, f, e, by omega, by omega, rfl, by go_num, HW.out.stay HX.out (.inr HAN.out), HB.out.trans ((HB2.out.trans HW2.out).out.mono HB.out.size)⟩
          case measure => simp [intOf]; omega
      · have HQ := Lib.hid hq
        have hqd : decide (x.t < e.t) = false := decide_eq_false hq
        clear hq
        go_wp2_with (first | (refine load_ev T36 _ rfl rfl rfl hR.out ?_) | (refine ewld_store T36 _ _ rfl rfl _ rfl rfl rfl ?_))
        (refine region_bel (by kernel_rfl) (by kernel_rfl) ?_; (repeat (first | ((with_reducible refine BigFrame.wpQuiet_skip ?_ ?_); exact rfl; simp only [Act.put, Act.eval, List.setIfInBounds_toArray, List.set_cons_zero, List.set_cons_succ, Array.getD_eq_getD_getElem?, List.getElem?_toArray, List.getElem?_cons_zero, List.getElem?_cons_succ, Option.getD_some]) | (refine q_move _ rfl rfl ?_; simp only [Act.put, Act.eval, List.setIfInBounds_toArray, List.set_cons_zero, List.set_cons_succ, Array.getD_eq_getD_getElem?, List.getElem?_toArray, List.getElem?_cons_zero, List.getElem?_cons_succ, Option.getD_some]) | (refine q_assign _ rfl rfl ?_; simp only [Act.put, Act.eval, List.setIfInBounds_toArray, List.set_cons_zero, List.set_cons_succ, Array.getD_eq_getD_getElem?, List.getElem?_toArray, List.getElem?_cons_zero, List.getElem?_cons_succ, Option.getD_some]) | (refine q_any rfl ?_; apply Exists.intro; refine ⟨fun w hw => ?_, ?_⟩; (have fct0 := F1 w hw; have fct1 := F2 w hw; go_simp; first | exact ⟨rfl, rfl⟩ | rfl | (go_at_call 48; (with_reducible refine (HF3.out _ hw).mono ?_); rintro e w' ⟨rfl, hb⟩; exact ⟨rfl, hw.call hb⟩)); simp only [Act.put, Act.eval, List.setIfInBounds_toArray, List.set_cons_zero, List.set_cons_succ, Array.getD_eq_getD_getElem?, List.getElem?_toArray, List.getElem?_cons_zero, List.getElem?_cons_succ, Option.getD_some]))); refine wpQuiet_nil ?_; intro w2 hw2)
        have HW2 := Lib.hid hw2
        clear hw2 F1 F2 hqd
        go_wp2
        go_roundw
        case rel => exact ⟨i + 1, f, e, by omega, by omega, rfl, by go_num, HW.out.stay HX.out (.inl (by have := HQ.out; omega)), HB.out.trans ((HB2.out.trans HW2.out).out.mono HB.out.size)⟩
        case measure => simp [intOf]; omega
    · obtain rfl : i = n := by omega
      go_wp2
      go_ret
      exact ⟨f, e, rfl, hf, HW.out, HB.out⟩
end Go.Proofs.Ytmdpegljpdjfoaa
