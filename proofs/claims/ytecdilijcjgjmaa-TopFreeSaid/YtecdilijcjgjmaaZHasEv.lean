import Derived.Test.YtecdilijcjgjmaaZEqEv
import Derived.Test.YtecdilijcjgjmaaZRefTr
import Derived.Test.YtecdilijcjgjmaaZAppend
set_option linter.all false
set_option maxRecDepth 100000
namespace Go.Proofs.Ytecdilijcjgjmaa
open Go Go.RowKit

theorem eq_evs (a b : Ev) (w : World) : (binOp .eql 37 (.agg (evv a)) (.agg (evv b))).run Try.prog w = .ok (.bool (decide (a = b))) w := by
  rw [ev_dec]
  unfold evv
  by_cases h1 : a.k = b.k <;> by_cases h2 : a.t = b.t <;> by_cases h3 : a.o = b.o <;> simp [go_sem, h1, h2, h3]
set_option maxHeartbeats 4000000 in
theorem hasev_any (A : Option Addr) (n c : Nat) (l : List Ev) (e : Ev) (w : World) (hl : Sl w A n l) (hn : n ≤ 1000) :
    Calls Try.prog 37 #[.slice A n c, .agg (evv e)] w fun r w' => r = .returned (.bool (decide (e ∈ l))) ∧ Below w.heap.size w w' := by
  have HB := Lib.hid (show Bel w (w.alloc (.cells (evv e) 37)) from (Bel.refl w).alloc _)
  have HX := Lib.hid (Box.new w (evv e) 37)
  have HL := Lib.hid (hl.bel HB.out)
  clear hl
  go_enter Try.func37, Try.ntmps37
  go_wp2
  generalize w.alloc (.cells (evv e) 37) = W at *
  go_loopw [9] (fun t wr => ∃ k : Nat, k ≤ n ∧ t = .int .i64 k ∧ e ∉ l.take k ∧ Bel W wr) (fun t _ => n - (intOf t).toNat)
  case atStart => exact ⟨0, by omega, rfl, by simp, Bel.refl _⟩
  case round =>
    obtain ⟨k, hk, rfl, hd, hr⟩ := hrel
    have HD := Lib.hid hd
    have HR := Lib.hid hr
    clear hd hr
    by_cases hlt : k < n
    · have hlt' : (k : Int) < n := by omega
      obtain ⟨bb, off, f, rfl, hbb, hf, hrg⟩ := (HL.out.bel HR.out).at_ hlt
      have hR := Lib.hid hrg
      have HY := Lib.hid (ewld_box wr f 37)
      have HRY := Lib.hid (HR.out.trans (Bel.of (ewld_below wr f 37)))
      have HF := Lib.hid hf
      have hx := HRY.out.box HX.out
      clear hrg hbb hf
      have NE := eq_evs e f
      cases hq : decide (e = f)
      · rw [hq] at NE
        have HNI := Lib.hid (show e ∉ l.take (k + 1) by
          rw [take_snoc HF.out, List.mem_append, List.mem_singleton]
          exact fun h => h.elim HD.out (of_decide_eq_false hq))
        go_wp2_with (first | (refine load_ev T36 _ rfl rfl rfl hR.out ?_) | (refine ewld_store T36 _ _ rfl rfl _ rfl rfl rfl ?_) | (refine loadB _ _ rfl rfl rfl hx T36 ?_) | (refine loadB _ _ rfl rfl rfl HY.out T36 ?_))
        go_roundw
        case rel => exact ⟨k + 1, by omega, by go_num, HNI.out, HRY.out⟩
        case measure => simp [intOf]; omega
      · rw [hq] at NE
        have HV := Lib.hid (show decide (e ∈ l) = true by rw [decide_eq_true_iff, of_decide_eq_true hq]; exact List.mem_of_getElem? HF.out)
        go_wp2_with (first | (refine load_ev T36 _ rfl rfl rfl hR.out ?_) | (refine ewld_store T36 _ _ rfl rfl _ rfl rfl rfl ?_) | (refine loadB _ _ rfl rfl rfl hx T36 ?_) | (refine loadB _ _ rfl rfl rfl HY.out T36 ?_))
        go_ret
        exact ⟨by rw [HV.out]; rfl, HB.out.trans HRY.out⟩
    · obtain rfl : k = n := by omega
      have HV := Lib.hid (show decide (e ∈ l) = false by rw [decide_eq_false_iff_not]; have := HD.out; rwa [← HL.out.1, List.take_length] at this)
      go_wp2
      go_ret
      exact ⟨by rw [HV.out]; rfl, HB.out.trans HR.out⟩
end Go.Proofs.Ytecdilijcjgjmaa
