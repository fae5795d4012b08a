/- The reference's Has over races. -/
import Derived.Test.YtjlomojhbjpdfaaRr
set_option linter.all false
set_option maxRecDepth 100000
namespace Go.Proofs.Ytjlomojhbjpdfaa
open Go Go.RowKit

theorem eql_rc (a b : Rc) (w : World) : (binOp .eql 56 (.agg (rcv a)) (.agg (rcv b))).run Try.prog w = .ok (.bool (decide (a = b))) w := by
  rw [rc_dec]
  unfold rcv
  generalize (a.a : Int) = a1; generalize (b.a : Int) = b1; generalize (a.b : Int) = a2; generalize (b.b : Int) = b2; generalize a.v = a3; generalize b.v = b3; generalize a.k = a4; generalize b.k = b4
  by_cases h1 : a1 = b1 <;> by_cases h2 : a2 = b2 <;> by_cases h3 : a3 = b3 <;> by_cases h4 : a4 = b4 <;> simp [go_sem, h1, h2, h3, h4]
set_option maxHeartbeats 4000000 in
theorem hasrc_any (A : Option Addr) (n c : Nat) (l : List Rc) (e : Rc) (w : World) (hl : SlR w A n l) (hn : n ≤ 9223372036854775807) :
    Calls Try.prog 34 #[.slice A n c, .agg (rcv e)] w fun r w' => r = .returned (.bool (decide (e ∈ l))) ∧ Below w.heap.size w w' := by
  have HB := Lib.hid (show Bel w (w.alloc (.cells (rcv e) 56)) from (Bel.refl w).alloc _)
  have HX := Lib.hid (Box.new w (rcv e) 56)
  have HL := Lib.hid (hl.bel HB.out)
  clear hl
  go_enter Try.func34, Try.ntmps34
  go_wp2
  generalize w.alloc (.cells (rcv e) 56) = W at *
  go_loopw [9] (fun t wr => ∃ k : Nat, k ≤ n ∧ t = .int .i64 k ∧ e ∉ l.take k ∧ Bel W wr) (fun t _ => n - (intOf t).toNat)
  case atStart => exact ⟨0, by omega, rfl, by simp, Bel.refl _⟩
  case round =>
    obtain ⟨k, hk, rfl, hd, hr⟩ := hrel
    have HD := Lib.hid hd
    have HR := Lib.hid hr
    clear hd hr
    by_cases hlt : k < n
    · have hlt' : (k : Int) < n := by omega
      obtain ⟨bb, off, f, rfl, hbb, hf, hrg⟩ := (HL.out.bel HR.out).at_ hlt
      have hR := Lib.hid hrg
      have HY := Lib.hid (rwld_box wr f 56)
      have HRY := Lib.hid (HR.out.trans (rwld_below wr f 56))
      have HF := Lib.hid hf
      have hx := HRY.out.box HX.out
      clear hrg hbb hf
      have NE := eql_rc e f
      have GR := grd_rc
      cases hq : decide (e = f)
      · rw [hq] at NE
        have HNI := Lib.hid (show e ∉ l.take (k + 1) by
          rw [List.take_add_one, HF.out, List.mem_append]
          exact fun h => h.elim HD.out fun h => of_decide_eq_false hq (by simpa using h))
        go_wp2_with (first | (refine load_rc TRc _ rfl rfl rfl hR.out ?_) | (refine rwld_store TRc _ _ rfl rfl _ rfl rfl rfl ?_) | (refine loadB _ _ rfl rfl rfl hx TRc ?_) | (refine loadB _ _ rfl rfl rfl HY.out TRc ?_))
        go_roundw
        case rel => exact ⟨k + 1, by omega, by go_num, HNI.out, HRY.out⟩
        case measure => simp [intOf]; omega
      · rw [hq] at NE
        have HV := Lib.hid (show decide (e ∈ l) = true by rw [decide_eq_true_iff, of_decide_eq_true hq]; exact List.mem_of_getElem? HF.out)
        go_wp2_with (first | (refine load_rc TRc _ rfl rfl rfl hR.out ?_) | (refine rwld_store TRc _ _ rfl rfl _ rfl rfl rfl ?_) | (refine loadB _ _ rfl rfl rfl hx TRc ?_) | (refine loadB _ _ rfl rfl rfl HY.out TRc ?_))
        go_ret
        exact ⟨by rw [HV.out]; rfl, HB.out.trans HRY.out⟩
    · obtain rfl : k = n := by omega
      have HV := Lib.hid (show decide (e ∈ l) = false by rw [decide_eq_false_iff_not]; have := HD.out; rwa [← HL.out.1, List.take_length] at this)
      go_wp2
      go_ret
      exact ⟨by rw [HV.out]; rfl, HB.out.trans HR.out⟩
end Go.Proofs.Ytjlomojhbjpdfaa
