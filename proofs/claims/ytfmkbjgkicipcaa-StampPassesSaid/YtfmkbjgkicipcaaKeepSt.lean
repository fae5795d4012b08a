/- Contracts of small functions beside the laws of stage 6: stamped. -/
import Derived.Test.YtfmkbjgkicipcaaCk
import Derived.Test.YtfmkbjgkicipcaaKn2
import Derived.Test.YtfmkbjgkicipcaaKeepTw
set_option linter.all false
set_option maxRecDepth 100000
namespace Go.Proofs.Ytfmkbjgkicipcaa
open Go Go.RowKit

/-- A row out of the middle of a block, behind a guard that is true. -/
theorem loadGm {P : Program} {ops : Array Oper} {rest : List Oper} {o : Oper} {a : Act} {w : World} {Q : Exit → Act → World → Prop} (ty : TypeId) (x : Operand) (ho : o.op = .load ty x) (hw : Region.wanted o (yielded ops a.tmps) = true) {b off : Nat} {cs : List Value} (hx : a.eval x = .pointer (some ⟨b, off, none⟩)) (hr : w.rangeAt b off cs) (hT : RowTy P ty cs.length) (c : Array Value) (hc : cs.toArray = c)
    (h : wpList P ops Q rest (a.put o.dst (.agg c)) w) : wpList P ops Q (o :: rest) a w := by
  subst hc
  refine BigFrame.wpList_want hw fun _ hK => ?_
  obtain ⟨d, hu, hd, hi⟩ := hT
  unfold Oper.wp execOp
  simp only [ho, hx, Instr.loadAt, Instr.sureAddr, Sem.run_bind, Sem.run_pure, Result.andThen_ok, run_loadVar_mid w b off ty cs d hr hu hd hi]
  exact hK _ _ h
theorem may_twoL : may twoL = 0 := by decide +kernel
theorem kc_two2 : clk (kc twoL 2) = #[.int .i64 1, .int .i64 1, .int .i64 0, .int .i64 0, .int .i64 0, .int .i64 0] := clk_congr (b := cf 1 1 0 0 0 0) (by decide +kernel)
theorem kc_two1 : clk (kc twoL 1) = #[.int .i64 2, .int .i64 0, .int .i64 0, .int .i64 0, .int .i64 0, .int .i64 0] := clk_congr (b := cf 2 0 0 0 0 0) (by decide +kernel)
set_option maxHeartbeats 4000000 in
theorem stamped_any (w : World) : Calls Try.prog 16 #[] w fun e w' => e = .returned (.bool true) ∧ Below w.heap.size w w' := by
  have hw0 := Bel.refl w
  have HM := Lib.hid may_twoL
  have G := grdC
  have E2 : ∀ w, (binOp .eql 31 (.agg (clk (kc twoL 2))) (.agg #[.int .i64 1, .int .i64 1, .int .i64 0, .int .i64 0, .int .i64 0, .int .i64 0])).run Try.prog w = .ok (.bool true) w := fun w => by
    have := eqlC (kc twoL 2) (kc twoL 2) w
    rw [eqc_self] at this
    rw [← kc_two2]
    exact this
  have E1 : ∀ w, (binOp .eql 31 (.agg (clk (kc twoL 1))) (.agg #[.int .i64 2, .int .i64 0, .int .i64 0, .int .i64 0, .int .i64 0, .int .i64 0])).run Try.prog w = .ok (.bool true) w := fun w => by
    have := eqlC (kc twoL 1) (kc twoL 1) w
    rw [eqc_self] at this
    rw [← kc_two1]
    exact this
  go_enter Try.func16, Try.ntmps16
  go_wp2_with fail
  refine (two_any _).mono ?_
  rintro e1 w1 ⟨v1, rfl, hown1, hb1⟩
  have hw1 := hw0.call hb1
  clear hb1
  obtain ⟨A1, c1, rfl, hs1, hn1, hm1⟩ := Sl.own hown1
  have HS1 := Lib.hid hs1
  clear hs1 hown1 hn1 hm1
  go_wp2_with fail
  refine (stamps_ok A1 3 c1 _ _ HS1.out HM.out).mono ?_
  rintro e2 w2 ⟨B, rfl, hck, hge, hb2⟩
  have hw2 := hw1.call hb2
  clear hb2
  have HR2 := Lib.hid (show w2.rangeAt B 12 (clkl (kc twoL 2)) from hck.row (j := 2) (by omega))
  have HR1 := Lib.hid (show w2.rangeAt B 6 (clkl (kc twoL 1)) from hck.row (j := 1) (by omega))
  clear hck hge
  go_wp2_with (first | (refine loadGm 31 _ rfl rfl rfl HR2.out ty28 (clk (kc twoL 2)) rfl ?_) | (refine loadGm 31 _ rfl rfl rfl HR1.out ty28 (clk (kc twoL 1)) rfl ?_))
  go_ret
  exact ⟨rfl, hw2⟩
end Go.Proofs.Ytfmkbjgkicipcaa
