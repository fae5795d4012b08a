import Derived.ArgAppend
import Derived.Deep.DeepCutAuto
import Derived.Test.YtlcldcbdobgdbaaZWl
import Derived.Test.YtlcldcbdobgdbaaZOpenEnd
import Derived.Test.YtlcldcbdobgdbaaZEv
import Derived.Test.YtlcldcbdobgdbaaZMapInt
set_option linter.all false
set_option maxRecDepth 100000
namespace Go.Proofs.Ytlcldcbdobgdbaa
open Go Go.RowKit Go.Shelf

set_option maxHeartbeats 8000000 in
theorem eqend_same {w : World} {b1 b2 n : Nat} {v u : Value} {ds : List En} (h : w.ownsRow b1 33 20 v n (enRow ds)) (k : w.ownsRow b2 33 20 u n (enRow ds)) :
    Calls Try.prog 17 #[v, u] w fun e w' => e = .returned (.bool true) ∧ Below w.heap.size w w' := by
  have hln : ds.length = n := by have := h.1; rw [row_len] at this; omega
  obtain ⟨A, c, rfl, hnc, hcm⟩ := row_slice h
  obtain ⟨B, d, rfl, hnd, hdm⟩ := row_slice k
  have HL := Lib.hid h
  have HK := Lib.hid k
  have HLN := Lib.hid hln
  have hncI : (n : Int) ≤ c := by omega
  have hndI : (n : Int) ≤ d := by omega
  have hnI : (n : Int) ≤ 9223372036854775807 := by unfold maxLen at hcm; omega
  have hne : ((n : Int) != (n : Int)) = false := by simp
  clear h k hln hcm hdm
  go_enter Try.func17, Try.ntmps17
  go_wp2
  go_loopw [14] (fun t wr => ∃ k : Nat, k ≤ n ∧ t = .int .i64 k ∧ Bel w wr) (fun t _ => n - (intOf t).toNat)
  case atStart => exact ⟨0, by omega, rfl, Bel.refl _⟩
  case round =>
    obtain ⟨k, hk, rfl, hr⟩ := hrel
    have HR := Lib.hid hr
    clear hr
    by_cases hlt : k < n
    · have hlt' : (k : Int) < n := by omega
      have hA : ∃ g, A = some ⟨g, 0, none⟩ := by
        rcases HL.out.2 with ⟨_, h0⟩ | ⟨g, _, _, hv, _⟩
        · omega
        · cases hv; exact ⟨g, rfl⟩
      have hB : ∃ g, B = some ⟨g, 0, none⟩ := by
        rcases HK.out.2 with ⟨_, h0⟩ | ⟨g, _, _, hv, _⟩
        · omega
        · cases hv; exact ⟨g, rfl⟩
      obtain ⟨g, rfl⟩ := hA
      obtain ⟨g2, rfl⟩ := hB
      have hlk : k < ds.length := by rw [HLN.out]; exact hlt
      have HRG := Lib.hid (own_range (own_bel HL.out HR.out) hlk)
      have HRK := fun (w9 : World) (h9 : Bel wr w9) => own_range (own_bel HK.out (HR.out.trans h9)) hlk
      generalize ds[k] = y at *
      have HY0 := Lib.hid (Box.new wr z20 33)
      have HY1 := Lib.hid (HY0.out.setRow (enA y))
      have hbw : Bel wr ((wr.alloc (.cells z20 33)).setRow wr.heap.size (enA y)) := ((Bel.refl wr).alloc _).setRow wr.heap.size (Nat.le_refl _) _
      have HF := Lib.hid (fun (w9 : World) (h9 : Bel ((wr.alloc (.cells z20 33)).setRow wr.heap.size (enA y)) w9) => HRK w9 (hbw.trans h9))
      have HBW := Lib.hid (HR.out.trans hbw)
      clear hlk hbw HRK
      go_upto_region 6 with (first | (refine load_row (l := enE y) (TEndx y) _ rfl rfl rfl HRG.out ?_) | (refine storeB 33 _ _ rfl rfl rfl rfl HY0.out rfl (by exact TEnd) (enA_one y) ?_))
      change Code.wp _ _ _ _ ((wr.alloc (.cells z20 33)).setRow wr.heap.size (enA y))
      have NE := neq_self y
      have G := grd_end
      generalize (wr.alloc (.cells z20 33)).setRow wr.heap.size (enA y) = W5 at *
      generalize wr.heap.size = X at *
      have HX1 := HY1.out
      (refine region_bel (by kernel_rfl) (by kernel_rfl) ?_; (repeat (first | ((with_reducible refine BigFrame.wpQuiet_skip ?_ ?_); exact rfl; simp only [Act.put, Act.eval, List.setIfInBounds_toArray, List.set_cons_zero, List.set_cons_succ, Array.getD_eq_getD_getElem?, List.getElem?_toArray, List.getElem?_cons_zero, List.getElem?_cons_succ, Option.getD_some]) | (refine q_move _ rfl rfl ?_; simp only [Act.put, Act.eval, List.setIfInBounds_toArray, List.set_cons_zero, List.set_cons_succ, Array.getD_eq_getD_getElem?, List.getElem?_toArray, List.getElem?_cons_zero, List.getElem?_cons_succ, Option.getD_some]) | (refine q_assign _ rfl rfl ?_; simp only [Act.put, Act.eval, List.setIfInBounds_toArray, List.set_cons_zero, List.set_cons_succ, Array.getD_eq_getD_getElem?, List.getElem?_toArray, List.getElem?_cons_zero, List.getElem?_cons_succ, Option.getD_some]) | (refine q_load _ _ rfl rfl rfl HX1 TEnd ?_; simp only [Act.put, Act.eval, List.setIfInBounds_toArray, List.set_cons_zero, List.set_cons_succ, Array.getD_eq_getD_getElem?, List.getElem?_toArray, List.getElem?_cons_zero, List.getElem?_cons_succ, Option.getD_some]) | (refine q_load_mid _ _ rfl rfl rfl HF.out (TEndx y) (enA y) rfl ?_; simp only [Act.put, Act.eval, List.setIfInBounds_toArray, List.set_cons_zero, List.set_cons_succ, Array.getD_eq_getD_getElem?, List.getElem?_toArray, List.getElem?_cons_zero, List.getElem?_cons_succ, Option.getD_some]) | (refine q_any rfl ?_; apply Exists.intro; refine ⟨fun w hw => ?_, ?_⟩; (go_simp; first | exact ⟨rfl, rfl⟩ | rfl); simp only [Act.put, Act.eval, List.setIfInBounds_toArray, List.set_cons_zero, List.set_cons_succ, Array.getD_eq_getD_getElem?, List.getElem?_toArray, List.getElem?_cons_zero, List.getElem?_cons_succ, Option.getD_some]))); refine wpQuiet_nil ?_; intro w2 hw2)
      have HW2 := Lib.hid (HBW.out.trans hw2)
      clear hw2
      go_wp2
      go_roundw
      case rel => exact ⟨k + 1, by omega, by go_num, HW2.out⟩
      case measure => simp [intOf]; omega
    · obtain rfl : k = n := by omega
      go_wp2
      go_ret
      exact ⟨rfl, HR.out.out⟩
end Go.Proofs.Ytlcldcbdobgdbaa
