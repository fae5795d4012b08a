/- '==' on events; rows that lie in the middle of a block; loads behind a guard. -/
import Derived.Test.YteihildhlcggoaaRows
import Derived.Test.YteihildhlcggoaaRefTr
set_option linter.all false
set_option maxRecDepth 100000
namespace Go.Proofs.Yteihildhlcggoaa
open Go Go.RowKit

theorem ev_dec (a b : Ev) : decide (a = b) = (a.k == b.k && (a.t == b.t && a.o == b.o)) := by
  rw [Bool.eq_iff_iff]
  simp only [decide_eq_true_eq, Bool.and_eq_true, beq_iff_eq]
  exact ⟨fun h => by subst h; exact ⟨rfl, rfl, rfl⟩, fun ⟨h1, h2, h3⟩ => Ev.ext' h1 h2 h3⟩
theorem eql_ev (a b : Ev) (w : World) : (binOp .eql 50 (.agg (evv a)) (.agg (evv b))).run Try.prog w = .ok (.bool (decide (a = b))) w := by
  rw [ev_dec]
  unfold evv
  by_cases h1 : a.k = b.k <;> by_cases h2 : a.t = b.t <;> by_cases h3 : a.o = b.o <;> simp [go_sem, h1, h2, h3]
theorem neq_ev (a b : Ev) (w : World) : (binOp .neq 50 (.agg (evv a)) (.agg (evv b))).run Try.prog w = .ok (.bool (!decide (a = b))) w := by
  rw [ev_dec]
  unfold evv
  by_cases h1 : a.k = b.k <;> by_cases h2 : a.t = b.t <;> by_cases h3 : a.o = b.o <;> simp [go_sem, h1, h2, h3]
theorem grd_ev : Try.prog.eqGuardType Try.prog.depth 50 = false := by kernel_rfl
theorem Sl.rng {w : World} {bb off n i : Nat} {l : List Ev} (h : Sl w (some ⟨bb, off, none⟩) n l) (hi : i < n) {e : Ev} (he : l[i]? = some e) : bb < w.heap.size ∧ w.rangeAt bb (off + i * 3) (evl e) := by
  obtain ⟨b, o, e', hA, hb, he', hr⟩ := h.at_ hi
  cases hA
  rw [he] at he'; cases he'
  exact ⟨hb, hr⟩
theorem load_evm {w : World} {b o : Nat} {e : Ev} (h : w.rangeAt b o (evl e)) : (loadVar 50 ⟨b, o, none⟩).run Try.prog w = .ok (.agg (evv e)) w := by
  exact run_loadVar_mid (P := Try.prog) w b o _ (evl e) _ h Try.underlying50 rfl (by kernel_rfl)
section
variable {P : Program} {ops : Array Oper} {rest : List Oper} {o : Oper} {a : Act} {W : World} {Q : Act → Prop}
/-- In a drawn region: a row that lies in the middle of a block. -/
theorem q_load_mid (ty : TypeId) (x : Operand) (ho : o.op = .load ty x) (hw : Region.wanted o (yielded ops a.tmps) = true) {b off : Nat} (hx : a.eval x = .pointer (some ⟨b, off, none⟩)) {cs : List Value} (hr : ∀ w, Bel W w → w.rangeAt b off cs)
    (hT : RowTy P ty cs.length) (c : Array Value) (hc : cs.toArray = c) (h : wpQuiet P ops (Bel W) Q rest (a.put o.dst (.agg c))) : wpQuiet P ops (Bel W) Q (o :: rest) a := by
  subst hc
  refine q_step (.agg cs.toArray) hw (fun w hw' => ?_) h
  obtain ⟨d, hu, hd, hi⟩ := hT
  unfold Oper.quietAt execOp
  simp only [ho, hx, Instr.loadAt, Instr.sureAddr, Sem.run_bind, Sem.run_pure, Result.andThen_ok, run_loadVar_mid w b off ty cs d (hr w hw') hu hd hi]
  exact ⟨rfl, rfl⟩
end
/-- A load behind a guard that is true. -/
theorem loadG {P : Program} {ops : Array Oper} {rest : List Oper} {o : Oper} {a : Act} {w : World} {Q : Exit → Act → World → Prop} (ty : TypeId) (x : Operand) (ho : o.op = .load ty x) (hw : Region.wanted o (yielded ops a.tmps) = true) {B : Nat} {c : Array Value} {t : TypeId} (hx : a.eval x = .pointer (some ⟨B, 0, none⟩)) (hb : Box w B c t) (hT : RowTy P ty c.size)
    (h : wpList P ops Q rest (a.put o.dst (.agg c)) w) : wpList P ops Q (o :: rest) a w := by
  refine BigFrame.wpList_want hw fun _ hK => ?_
  obtain ⟨d, hu, hd, hi⟩ := hT
  unfold Oper.wp execOp
  simp only [ho, hx, Instr.loadAt, Instr.sureAddr, Sem.run_bind, Sem.run_pure, Result.andThen_ok, run_loadVar_row w B t ty c (0, 0) d hb hu (by cases d <;> simp_all [TypeDesc.isRow]) hi]
  exact hK _ _ h
end Go.Proofs.Yteihildhlcggoaa
